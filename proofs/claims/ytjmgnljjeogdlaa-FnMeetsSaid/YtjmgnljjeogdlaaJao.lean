/-
  Some texts of this proof in one: TeKw, TeDs, TeDp, TeDt.
-/
import Derived.Test.YtjmgnljjeogdlaaTeKs
import Derived.Test.YtjmgnljjeogdlaaJan
import Derived.Maps.AppendAt
import Derived.Test.YtjmgnljjeogdlaaJad
/-
  A term in the place of a kid: a contract of l4With. Conditions: good terms.
-/
namespace Go.Proofs.Ytjmgnljjeogdlaa.W
open Go.ChangeShapes Go.WideShapes Go.ChangeAt Go.RowKit
set_option linter.unusedVariables false

theorem KidsAt.one {w : World} {P : Nat → Prop} : ∀ {a : F} {cs : List Value}, KidsAt w P a cs → ∀ u ∈ cs, u.oneCell' = true
  | .nil, _, h => by rw [show _ = [] from h]; simp
  | .cons x k r, _, ⟨s, cr, e, h2, h3⟩ => by
    have i := KidsAt.one h3
    rw [e]
    intro u hu
    rcases List.mem_append.1 hu with hu | hu
    · exact tC_one x s (KidT.one (a := k) h2) u hu
    · exact i u hu

theorem own0 {W : World} {B E : Nat} (h : W.heap[E]? = some (.cells #[] 55 (0, 0))) (hE : B ≤ E) : W.ownsRow B 55 3 (.slice (some ⟨E, 0, none⟩) 0 0) 0 [] := ⟨rfl, .inr ⟨E, 0, #[], rfl, hE, h, Nat.le_refl _, by unfold maxLen; omega, rfl, rfl⟩⟩
theorem tOwn_set {w : World} {base n size g cap O : Nat} {e : TypeId} {xs : List Value} (h : w.ownsRow base e size (.slice (some ⟨g, 0, none⟩) n cap) n xs) (hg : g ≠ O) (i : Nat) (v : Value) : (w.setCell ⟨O, i, none⟩ v).ownsRow base e size (.slice (some ⟨g, 0, none⟩) n cap) n xs := by
  refine ⟨h.1, ?_⟩
  rcases h.2 with ⟨h0, -⟩ | ⟨g', cap', cur, hv, hb, hh, rest⟩
  · cases h0
  · have hv' := hv
    simp only [Value.slice.injEq, Option.some.injEq, Addr.mk.injEq] at hv'
    obtain ⟨⟨rfl, -, -⟩, -, rfl⟩ := hv'
    exact .inr ⟨g, cap, cur, rfl, hb, by rw [Below.heap_setCell _ _ _ _ hg]; exact hh, rest⟩
theorem at_le {A E g H : Nat} (h : some E = some g ∨ g = H) (h1 : A ≤ E) (h2 : A ≤ H) : A ≤ g := by
  rcases h with h | h
  · simp only [Option.some.injEq] at h; omega
  · omega
theorem at_ne {E g H O : Nat} (h : some E = some g ∨ g = H) (h1 : E ≠ O) (h2 : H ≠ O) : g ≠ O := by
  rcases h with h | h
  · simp only [Option.some.injEq] at h; omega
  · omega
/-- Three cells of a row put anew. -/
theorem row_put {cur : Array Value} {ca cr : List Value} {u0 u1 u2 v0 v1 v2 : Value} {N : Nat} (h : cur.toList.take N = ca ++ ([u0, u1, u2] ++ cr)) (hs : N ≤ cur.size) :
    ∀ (j : Nat) (v : Value), (ca ++ ([v0, v1, v2] ++ cr))[j]? = some v → (((cur.setIfInBounds ca.length v0).setIfInBounds (ca.length + 1) v1).setIfInBounds (ca.length + 2) v2)[j]? = some v := by
  have hN : N = ca.length + (3 + cr.length) := by
    have := congrArg List.length h
    rw [List.length_take] at this
    simp at this
    omega
  have hc : ∀ j : Nat, j < N → cur[j]? = (ca ++ ([u0, u1, u2] ++ cr))[j]? := fun j hj => by rw [← h, List.getElem?_take_of_lt hj]; simp
  intro j v hv
  have hj : j < N := by have := (List.getElem?_eq_some_iff.1 hv).1; simp at this; omega
  simp only [Array.getElem?_setIfInBounds, Array.size_setIfInBounds]
  by_cases h2 : ca.length + 2 = j
  · subst h2
    rw [if_pos rfl, if_pos (by omega), ← hv, List.getElem?_append_right (by omega)]
    simp
  · rw [if_neg h2]
    by_cases h1 : ca.length + 1 = j
    · subst h1
      rw [if_pos rfl, if_pos (by omega), ← hv, List.getElem?_append_right (by omega)]
      simp
    · rw [if_neg h1]
      by_cases h0 : ca.length = j
      · subst h0
        rw [if_pos rfl, if_pos (by omega), ← hv, List.getElem?_append_right (by omega)]
        simp
      · rw [if_neg h0, hc j hj, ← hv]
        by_cases hlt : j < ca.length
        · rw [List.getElem?_append_left hlt, List.getElem?_append_left hlt]
        · have he : ∀ q0 q1 q2 : Value, (ca ++ ([q0, q1, q2] ++ cr))[j]? = cr[j - ca.length - 3]? := fun q0 q1 q2 => by
            rw [List.getElem?_append_right (by omega), List.getElem?_append_right (by show 3 ≤ j - ca.length; omega)]
            rfl
          rw [he, he]
theorem blk_new1 (w0 : World) (o1 o2 : Obj) : ((w0.alloc o1).alloc o2).drew.heap[w0.heap.size + 1]? = some o2 := by
  have := heap_alloc_new (w0.alloc o1) o2
  rw [World.size_alloc] at this
  exact this
theorem blk_old1 (w0 : World) (o1 o2 : Obj) : ((w0.alloc o1).alloc o2).drew.heap[w0.heap.size]? = some o1 := (heap_alloc_old (w0.alloc o1) o2 (by simp)).trans (heap_alloc_new w0 o1)
theorem news0 {w W : World} {g : Nat} {ck : List Value} (hg : g < w.heap.size) (h : ∀ j v, ck[j]? = some v → w.cell? ⟨g, j, none⟩ = some v) (hb : Below w.heap.size w W) : ∀ j u, ck[j]? = some u → W.cell? ((⟨g, 0, none⟩ : Addr).add j) = some u := fun j u hu => by
  rw [iAdd, Nat.zero_add]
  exact (hb.cell (p := ⟨g, j, none⟩) hg).trans (h j u hu)

set_option maxRecDepth 20000 in
set_option maxHeartbeats 2000000 in
theorem l4With_any (x y z : Cc) (a ky r kz : F) (s sz : Value) (P Q : Nat → Prop) (w : World) (hn : (a.app (.cons y ky r)).len ≤ 3) (hT : KidT w P (a.app (.cons y ky r)) s) (hZ : KidT w Q kz sz) :
    Calls Try.prog 75 #[.agg #[.int .i64 x.k, .int .i64 x.n, s], .int .i64 (a.len : Int), .agg #[.int .i64 z.k, .int .i64 z.n, sz]] w fun e w' => ∃ s', e = .returned (.agg #[.int .i64 x.k, .int .i64 x.n, s']) ∧ KidT w' (fun g => (P g ∨ Q g) ∨ w.heap.size ≤ g) (a.app (.cons z kz r)) s' ∧ Below w.heap.size w w' := by
  obtain ⟨ck, hk, hH⟩ := hT
  obtain ⟨g, cap, rfl, hPg, hg, hcs⟩ : ∃ g cap, s = .slice (some ⟨g, 0, none⟩) (a.app (.cons y ky r)).len cap ∧ P g ∧ g < w.heap.size ∧ ∀ j v, ck[j]? = some v → w.cell? ⟨g, j, none⟩ = some v := by
    rcases hH with ⟨h0, -⟩ | ⟨-, g, cap, h1, h2, h3, h4⟩
    · rw [F.app_len] at h0; simp [F.len] at h0
    · exact ⟨g, cap, h1, h2, h3, h4⟩
  obtain ⟨zad, zc, rfl⟩ := hZ.form
  obtain ⟨i0, hi0, hz0, hz1, hz2⟩ := infoPartsT infoT
  have Hi := hide hi0
  have HZ := hide hZ
  have HK := hide hk
  have HCs := hide hcs
  have hckl := hk.len
  have hone := hk.one
  have hal : a.len < (a.app (.cons y ky r)).len := by rw [F.app_len]; simp [F.len]
  obtain ⟨n, hnn⟩ : ∃ n, n = (a.app (.cons y ky r)).len := ⟨_, rfl⟩
  obtain ⟨ZN, hZN⟩ : ∃ ZN, ZN = kz.len := ⟨_, rfl⟩
  obtain ⟨AL, hAL⟩ : ∃ AL, AL = a.len := ⟨_, rfl⟩
  rw [← hnn] at hn hckl hal ⊢
  rw [← hZN] at HZ ⊢
  rw [← hAL] at hal ⊢
  have HNn := hide hnn
  have HAL := hide hAL
  have HOne := hide hone
  have HLen := hide hckl
  have hal' : (AL : Int) < (n : Int) := by omega
  have ha0 : (0 : Int) ≤ (AL : Int) := by omega
  clear hi0 hZ hk hH hcs hone hckl hnn hZN hAL
  go_enter Try.func75, Try.ntmps75
  go_wp2_with fail
  obtain ⟨w0, hw0⟩ : ∃ w0, w0 = ((w.alloc (.cells #[.int .i64 x.k, .int .i64 x.n, .slice (some ⟨g, 0, none⟩) n cap] 55)).alloc (.cells #[.int .i64 z.k, .int .i64 z.n, .slice zad ZN zc] 55)).alloc (.cells #[.int .i64 0, .int .i64 0, .slice none 0 0] 55) := ⟨_, rfl⟩
  have hB0 : Below w.heap.size w w0 := by rw [hw0]; exact (((Below.refl _ _).alloc (Nat.le_refl _) _).alloc (by simp) _).alloc (by simp; omega) _
  have hbT : w0.heap[w.heap.size]? = some (.cells #[.int .i64 x.k, .int .i64 x.n, .slice (some ⟨g, 0, none⟩) n cap] 55) := by rw [hw0, heap_alloc_old _ _ (by simp; omega), heap_alloc_old _ _ (by simp)]; exact heap_alloc_new _ _
  have hbZ : w0.heap[w.heap.size + 1]? = some (.cells #[.int .i64 z.k, .int .i64 z.n, .slice zad ZN zc] 55) := by rw [hw0, heap_alloc_old _ _ (by simp)]; have := heap_alloc_new (w.alloc (.cells #[.int .i64 x.k, .int .i64 x.n, .slice (some ⟨g, 0, none⟩) n cap] 55)) (.cells #[.int .i64 z.k, .int .i64 z.n, .slice zad ZN zc] 55); simpa using this
  have hbR : w0.heap[w.heap.size + 1 + 1]? = some (.cells #[.int .i64 0, .int .i64 0, .slice none 0 0] 55) := by rw [hw0]; have := heap_alloc_new ((w.alloc (.cells #[.int .i64 x.k, .int .i64 x.n, .slice (some ⟨g, 0, none⟩) n cap] 55)).alloc (.cells #[.int .i64 z.k, .int .i64 z.n, .slice zad ZN zc] 55)) (.cells #[.int .i64 0, .int .i64 0, .slice none 0 0] 55); simpa using this
  have hsz0 : w0.heap.size = w.heap.size + 1 + 1 + 1 := by rw [hw0]; simp
  rw [← hw0]
  have e0 : w0.cell? ⟨w.heap.size, 0, none⟩ = some (.int .i64 x.k) := (cell_of_blk hbT 0).trans rfl
  have e1 : w0.cell? ⟨w.heap.size, 1, none⟩ = some (.int .i64 x.n) := (cell_of_blk hbT 1).trans rfl
  have e2 : w0.cell? ⟨w.heap.size, 2, none⟩ = some (.slice (some ⟨g, 0, none⟩) n cap) := (cell_of_blk hbT 2).trans rfl
  have HB0 := hide hB0
  have HbT := hide hbT
  have HbZ := hide hbZ
  have HbR := hide hbR
  have HSz0 := hide hsz0
  have hszl : w.heap.size + 1 + 1 < w0.heap.size := by omega
  have hn1 : ¬ w0.heap.size = w.heap.size := by omega
  have hn2 : ¬ w0.heap.size + 1 = w.heap.size := by omega
  clear hw0 hB0 hbT hbZ hbR hsz0
  go_region_held3 (fun w' => w'.cell? ⟨w.heap.size, 0, none⟩ = some (.int .i64 x.k) ∧ w'.cell? ⟨w.heap.size, 1, none⟩ = some (.int .i64 x.n) ∧ w'.cell? ⟨w.heap.size, 2, none⟩ = some (.slice (some ⟨g, 0, none⟩) n cap)) (go_keep)
    (first
      | (refine step_append_lies _ rfl _ _ 53 rfl w.heap.size 55 i0 (.agg #[.int .i64 0, .int .i64 0, .slice none 0 0]) 3 40 Try.underlying53 Hi.out hz0 hz1 hz2 rfl (by decide) _ 0 [] rfl (own0 (by first | exact heap_alloc_new w0 _ | exact blk_old1 w0 _ _ | exact blk_new1 w0 _ _) (by first | omega | (simp; omega))) ⟨g, 0, none⟩ n cap ck rfl HLen.out (news0 hg HCs.out (by first | exact belowDrew (HB0.out.alloc HB0.out.size _) | exact belowDrew ((HB0.out.alloc HB0.out.size _).alloc (by have := HB0.out.size; simp; omega) _))) HOne.out (by omega) (by unfold maxLen; omega) (by omega) (by first | (show w.heap.size ≤ (w0.alloc _).heap.size; simp; omega) | (show w.heap.size ≤ ((w0.alloc _).alloc _).heap.size; simp; omega)) _ rfl ?_; intro g6 cap6 w6 hown6 hgrow6 hat6 hlt6; (first | change World.grownBy _ _ (some w0.heap.size) at hgrow6 | change World.grownBy _ _ (some (w0.heap.size + 1)) at hgrow6); (first | change some w0.heap.size = some g6 ∨ _ at hat6 | change some (w0.heap.size + 1) = some g6 ∨ _ at hat6); have hg6 : w0.heap.size ≤ g6 := at_le hat6 (by first | exact Nat.le_refl _ | exact Nat.le_succ _) (by first | (show w0.heap.size ≤ (w0.alloc _).heap.size; simp) | (show w0.heap.size ≤ ((w0.alloc _).alloc _).heap.size; simp; omega)); have HO6 := hide hown6; have HG6 := hide hgrow6; have hB6 : Below w0.heap.size w0 w6 := Below.grown (by first | exact belowDrew ((Below.refl _ w0).alloc (Nat.le_refl _) _) | exact belowDrew (((Below.refl _ w0).alloc (Nat.le_refl _) _).alloc (by simp) _)) hgrow6 (by first | (show w0.heap.size ≤ (w0.alloc _).heap.size; simp) | (show w0.heap.size ≤ ((w0.alloc _).alloc _).heap.size; simp; omega)) (fun k hk => by cases hk; first | exact Nat.le_refl _ | (simp)); have HB6 := hide hB6; have f0 := (hB6.cell (p := ⟨w.heap.size, 0, none⟩) (show w.heap.size < w0.heap.size by omega)).trans e0; have f1 := (hB6.cell (p := ⟨w.heap.size, 1, none⟩) (show w.heap.size < w0.heap.size by omega)).trans e1; have f2 := (hB6.cell (p := ⟨w.heap.size, 2, none⟩) (show w.heap.size < w0.heap.size by omega)).trans e2; have hsz6 : w0.heap.size ≤ w6.heap.size := hB6.size; have hn3 : ¬ w6.heap.size = w.heap.size := (by omega); (try (have hO6 : w6.heap[w0.heap.size]? = some (.cells #[.int .i64 0, .int .i64 0, .slice none 0 0] 55) := (hgrow6.block _ (by show w0.heap.size < ((w0.alloc _).alloc _).heap.size; simp; omega) (by simp)).trans (blk_old1 w0 _ _); have hgO : g6 ≠ w0.heap.size := at_ne hat6 (by omega) (by show ((w0.alloc _).alloc _).heap.size ≠ _; simp; omega); have y0 : w6.cell? ⟨w0.heap.size, 0, none⟩ = some (.int .i64 0) := (cell_of_blk hO6 0).trans rfl; have y1 : w6.cell? ⟨w0.heap.size, 1, none⟩ = some (.int .i64 0) := (cell_of_blk hO6 1).trans rfl; have y2 : w6.cell? ⟨w0.heap.size, 2, none⟩ = some (.slice none 0 0) := (cell_of_blk hO6 2).trans rfl; have fy := unfrozen_of_blk hO6; have HY6 := hide hO6; clear hO6)); (try (have hO6 : w6.heap[w0.heap.size + 1]? = some (.cells #[.int .i64 0, .int .i64 0, .slice none 0 0] 55) := (hgrow6.block _ (by show w0.heap.size + 1 < ((w0.alloc _).alloc _).heap.size; simp) (by simp)).trans (blk_new1 w0 _ _); have hgO : g6 ≠ w0.heap.size + 1 := at_ne hat6 (by omega) (by show ((w0.alloc _).alloc _).heap.size ≠ _; simp); have y0 : w6.cell? ⟨w0.heap.size + 1, 0, none⟩ = some (.int .i64 0) := (cell_of_blk hO6 0).trans rfl; have y1 : w6.cell? ⟨w0.heap.size + 1, 1, none⟩ = some (.int .i64 0) := (cell_of_blk hO6 1).trans rfl; have y2 : w6.cell? ⟨w0.heap.size + 1, 2, none⟩ = some (.slice none 0 0) := (cell_of_blk hO6 2).trans rfl; have fy := unfrozen_of_blk hO6; have HY6 := hide hO6; clear hO6)); clear hown6 hgrow6 hat6 hB6))
  · obtain ⟨W7, hW7⟩ : ∃ W7, W7 = w6.alloc (.cells #[.int .i64 x.k, .int .i64 x.n, .slice (some ⟨g6, 0, none⟩) n cap6] 55) := ⟨_, rfl⟩
    rw [← hW7]
    have hO7 : W7.heap[w6.heap.size]? = some (.cells #[.int .i64 x.k, .int .i64 x.n, .slice (some ⟨g6, 0, none⟩) n cap6] 55 (0, 0)) := by rw [hW7]; exact heap_alloc_new w6 _
    have hB7 : Below w0.heap.size w0 W7 := by rw [hW7]; exact HB6.out.alloc HB6.out.size _
    have hOw7 : W7.ownsRow w.heap.size 55 3 (.slice (some ⟨g6, 0, none⟩) n cap6) n ck := by rw [hW7]; exact World.ownsRow.alloc (by have h := HO6.out; rw [Nat.zero_add, List.nil_append] at h; exact h) _
    have hne : g6 ≠ w6.heap.size := by omega
    obtain ⟨O, hO⟩ : ∃ O, O = w6.heap.size := ⟨_, rfl⟩
    rw [← hO] at hO7 hne ⊢
    have hOge : w0.heap.size ≤ O := by omega
    clear hW7 hO
    have r0 := (hB7.block (w.heap.size + 1) (by omega)).trans HbZ.out
    have r1 := (hB7.block (w.heap.size + 1 + 1) (by omega)).trans HbR.out
    have d0 : W7.cell? ⟨O, 0, none⟩ = some (.int .i64 x.k) := (cell_of_blk hO7 0).trans rfl
    have d1 : W7.cell? ⟨O, 1, none⟩ = some (.int .i64 x.n) := (cell_of_blk hO7 1).trans rfl
    have d2 : W7.cell? ⟨O, 2, none⟩ = some (.slice (some ⟨g6, 0, none⟩) n cap6) := (cell_of_blk hO7 2).trans rfl
    have c0 : W7.cell? ⟨w.heap.size + 1, 0, none⟩ = some (.int .i64 z.k) := (cell_of_blk r0 0).trans rfl
    have c1 : W7.cell? ⟨w.heap.size + 1, 1, none⟩ = some (.int .i64 z.n) := (cell_of_blk r0 1).trans rfl
    have c2 : W7.cell? ⟨w.heap.size + 1, 2, none⟩ = some (.slice zad ZN zc) := (cell_of_blk r0 2).trans rfl
    obtain ⟨cur, hcur, hcs, hct⟩ : ∃ cur : Array Value, W7.heap[g6]? = some (.cells cur 55 (0, 0)) ∧ n * 3 ≤ cur.size ∧ cur.toList.take (n * 3) = ck := by
      rcases hOw7.2 with ⟨h, -⟩ | ⟨g', cap', cur, hv, -, hh, h1, -, h3, h4⟩
      · cases h
      · simp only [Value.slice.injEq, Option.some.injEq, Addr.mk.injEq] at hv
        obtain ⟨⟨rfl, -, -⟩, -, rfl⟩ := hv
        exact ⟨cur, hh, by rw [h3]; exact Nat.mul_le_mul_right _ h1, h4⟩
    have fz : ∀ i, W7.frozen? ⟨g6, i, none⟩ = false := fun i => unfrozen_of_blk hcur i
    have ce : ∀ i, i < 3 → ∃ v, W7.cell? ⟨g6, AL * 3 + i, none⟩ = some v := fun i hi => by rw [cell_of_blk hcur, Array.getElem?_eq_getElem (by omega)]; exact ⟨_, rfl⟩
    obtain ⟨v0, hv0⟩ := ce 0 (by omega)
    obtain ⟨v1, hv1⟩ := ce 1 (by omega)
    obtain ⟨v2, hv2⟩ := ce 2 (by omega)
    rw [Nat.add_zero] at hv0
    have s0 : W7.cell? ⟨w.heap.size + 1 + 1, 0, none⟩ = some (.int .i64 0) := (cell_of_blk r1 0).trans rfl
    have s1 : W7.cell? ⟨w.heap.size + 1 + 1, 1, none⟩ = some (.int .i64 0) := (cell_of_blk r1 1).trans rfl
    have s2 : W7.cell? ⟨w.heap.size + 1 + 1, 2, none⟩ = some (.slice none 0 0) := (cell_of_blk r1 2).trans rfl
    have fr : ∀ i, W7.frozen? ⟨w.heap.size + 1 + 1, i, none⟩ = false := fun i => unfrozen_of_blk r1 i
    have HCur := hide hcur
    have HR1 := hide r1
    have HO7 := hide hO7
    have HB7 := hide hB7
    have m1 : ¬ g6 = w.heap.size + 1 := by omega
    have m2 : ¬ g6 = w.heap.size := by omega
    have m3 : ¬ g6 = w.heap.size + 1 + 1 := by omega
    have m4 : ¬ O = w.heap.size + 1 + 1 := by omega
    have m5 : ¬ g6 = O := hne
    clear e0 e1 e2 f0 f1 f2 ce hcur r0 r1 hO7 hB7 hOw7
    go_wp2_with fail
    obtain ⟨W8, hW8⟩ : ∃ W8, W8 = ((W7.setCell ⟨g6, AL * 3, none⟩ (.int .i64 z.k)).setCell ⟨g6, AL * 3 + 1, none⟩ (.int .i64 z.n)).setCell ⟨g6, AL * 3 + 2, none⟩ (.slice zad ZN zc) := ⟨_, rfl⟩
    rw [← hW8]
    have hB8 : Below w.heap.size w W8 := by
      rw [hW8]
      exact (((HB0.out.trans (HB7.out.mono HB0.out.size)).setCell (p := ⟨g6, AL * 3, none⟩) (by show w.heap.size ≤ g6; omega) _).setCell (p := ⟨g6, AL * 3 + 1, none⟩) (by show w.heap.size ≤ g6; omega) _).setCell (p := ⟨g6, AL * 3 + 2, none⟩) (by show w.heap.size ≤ g6; omega) _
    have hc8 : W8.heap[g6]? = some (.cells (((cur.setIfInBounds (AL * 3) (.int .i64 z.k)).setIfInBounds (AL * 3 + 1) (.int .i64 z.n)).setIfInBounds (AL * 3 + 2) (.slice zad ZN zc)) 55 (0, 0)) := by rw [hW8]; exact blk_setCell (blk_setCell (blk_setCell HCur.out _) _) _
    have hr8 : W8.heap[w.heap.size + 1 + 1]? = some (.cells #[.int .i64 0, .int .i64 0, .slice none 0 0] 55 (0, 0)) := by rw [hW8, Below.heap_setCell _ _ _ _ (Ne.symm m3), Below.heap_setCell _ _ _ _ (Ne.symm m3), Below.heap_setCell _ _ _ _ (Ne.symm m3)]; exact HR1.out
    have hr9 := blk_setCell (i := 2) (blk_setCell (i := 1) (blk_setCell (i := 0) hr8 (.int .i64 x.k)) (.int .i64 x.n)) (.slice (some ⟨g6, 0, none⟩) n cap6)
    have t0 := (cell_of_blk hr9 0).trans rfl
    have t1 := (cell_of_blk hr9 1).trans rfl
    have t2 := (cell_of_blk hr9 2).trans rfl
    have hB9 := ((hB8.setCell (p := ⟨w.heap.size + 1 + 1, 0, none⟩) (by show w.heap.size ≤ w.heap.size + 1 + 1; omega) (.int .i64 x.k)).setCell (p := ⟨w.heap.size + 1 + 1, 1, none⟩) (by show w.heap.size ≤ w.heap.size + 1 + 1; omega) (.int .i64 x.n)).setCell (p := ⟨w.heap.size + 1 + 1, 2, none⟩) (by show w.heap.size ≤ w.heap.size + 1 + 1; omega) (.slice (some ⟨g6, 0, none⟩) n cap6)
    refine bodyPost_ret (v := .agg #[.int .i64 x.k, .int .i64 x.n, .slice (some ⟨g6, 0, none⟩) n cap6]) (by simp [results, Try.results75, go_sem, t0, t1, t2]) rfl ⟨_, rfl, ?_, hB9⟩
    obtain ⟨ca, cb, k1', ha, sy, cr, k2', hy, hr⟩ := HK.out.split
    have hcal : ca.length = AL * 3 := by rw [ha.len, HAL.out]
    have hlen : (a.app (.cons z kz r)).len = n := by rw [HNn.out, F.app_len, F.app_len]; rfl
    have hkeep : ∀ k, P k → k < w.heap.size → _ := fun k hp hk => (⟨hB9.block k hk, .inl (.inl hp)⟩ : _ ∧ ((P k ∨ Q k) ∨ w.heap.size ≤ k))
    refine ⟨ca ++ (tC z (.slice zad ZN zc) ++ cr), KidsAt.app (ha.keep hB9.size hkeep) ⟨.slice zad ZN zc, cr, rfl, HZ.out.keep hB9.size (fun k hp hk => ⟨hB9.block k hk, .inl (.inr hp)⟩), hr.keep hB9.size hkeep⟩, .inr ⟨by rw [hlen]; omega, g6, cap6, by rw [hlen], .inr (by omega), ?_, ?_⟩⟩
    · have := (Array.getElem?_eq_some_iff.1 hc8).1
      simpa [World.setCell] using this
    · intro j v hj
      have hput := row_put (cur := cur) (ca := ca) (cr := cr) (v0 := .int .i64 z.k) (v1 := .int .i64 z.n) (v2 := .slice zad ZN zc) (by rw [hct, k1', k2']; rfl) hcs j v hj
      rw [hcal] at hput
      have hc9 : ((((W8.setCell ⟨w.heap.size + 1 + 1, 0, none⟩ (.int .i64 x.k)).setCell ⟨w.heap.size + 1 + 1, 1, none⟩ (.int .i64 x.n)).setCell ⟨w.heap.size + 1 + 1, 2, none⟩ (.slice (some ⟨g6, 0, none⟩) n cap6))).heap[g6]? = some (.cells (((cur.setIfInBounds (AL * 3) (.int .i64 z.k)).setIfInBounds (AL * 3 + 1) (.int .i64 z.n)).setIfInBounds (AL * 3 + 2) (.slice zad ZN zc)) 55 (0, 0)) := by
        rw [Below.heap_setCell _ _ _ _ m3, Below.heap_setCell _ _ _ _ m3, Below.heap_setCell _ _ _ _ m3]; exact hc8
      rw [cell_of_blk hc9]
      exact hput
  · obtain ⟨W7, hW7⟩ : ∃ W7, W7 = (((w6.setCell ⟨w0.heap.size + 1, 0, none⟩ (.int .i64 x.k)).setCell ⟨w0.heap.size + 1, 1, none⟩ (.int .i64 x.n)).setCell ⟨w0.heap.size + 1, 2, none⟩ (.slice (some ⟨g6, 0, none⟩) n cap6)) := ⟨_, rfl⟩
    rw [← hW7]
    have hO7 : W7.heap[w0.heap.size + 1]? = some (.cells #[.int .i64 x.k, .int .i64 x.n, .slice (some ⟨g6, 0, none⟩) n cap6] 55 (0, 0)) := by rw [hW7]; exact blk_setCell (i := 2) (blk_setCell (i := 1) (blk_setCell (i := 0) HY6.out (.int .i64 x.k)) (.int .i64 x.n)) (.slice (some ⟨g6, 0, none⟩) n cap6)
    have hB7 : Below w0.heap.size w0 W7 := by rw [hW7]; exact ((HB6.out.setCell (p := ⟨w0.heap.size + 1, 0, none⟩) (by simp) _).setCell (p := ⟨w0.heap.size + 1, 1, none⟩) (by simp) _).setCell (p := ⟨w0.heap.size + 1, 2, none⟩) (by simp) _
    have hOw7 : W7.ownsRow w.heap.size 55 3 (.slice (some ⟨g6, 0, none⟩) n cap6) n ck := by rw [hW7]; exact tOwn_set (tOwn_set (tOwn_set (by have h := HO6.out; rw [Nat.zero_add, List.nil_append] at h; exact h) hgO _ _) hgO _ _) hgO _ _
    have hne : g6 ≠ w0.heap.size + 1 := hgO
    obtain ⟨O, hO⟩ : ∃ O, O = w0.heap.size + 1 := ⟨_, rfl⟩
    rw [← hO] at hO7 hne ⊢
    have hOge : w0.heap.size ≤ O := by omega
    clear hW7 hO
    have r0 := (hB7.block (w.heap.size + 1) (by omega)).trans HbZ.out
    have r1 := (hB7.block (w.heap.size + 1 + 1) (by omega)).trans HbR.out
    have d0 : W7.cell? ⟨O, 0, none⟩ = some (.int .i64 x.k) := (cell_of_blk hO7 0).trans rfl
    have d1 : W7.cell? ⟨O, 1, none⟩ = some (.int .i64 x.n) := (cell_of_blk hO7 1).trans rfl
    have d2 : W7.cell? ⟨O, 2, none⟩ = some (.slice (some ⟨g6, 0, none⟩) n cap6) := (cell_of_blk hO7 2).trans rfl
    have c0 : W7.cell? ⟨w.heap.size + 1, 0, none⟩ = some (.int .i64 z.k) := (cell_of_blk r0 0).trans rfl
    have c1 : W7.cell? ⟨w.heap.size + 1, 1, none⟩ = some (.int .i64 z.n) := (cell_of_blk r0 1).trans rfl
    have c2 : W7.cell? ⟨w.heap.size + 1, 2, none⟩ = some (.slice zad ZN zc) := (cell_of_blk r0 2).trans rfl
    obtain ⟨cur, hcur, hcs, hct⟩ : ∃ cur : Array Value, W7.heap[g6]? = some (.cells cur 55 (0, 0)) ∧ n * 3 ≤ cur.size ∧ cur.toList.take (n * 3) = ck := by
      rcases hOw7.2 with ⟨h, -⟩ | ⟨g', cap', cur, hv, -, hh, h1, -, h3, h4⟩
      · cases h
      · simp only [Value.slice.injEq, Option.some.injEq, Addr.mk.injEq] at hv
        obtain ⟨⟨rfl, -, -⟩, -, rfl⟩ := hv
        exact ⟨cur, hh, by rw [h3]; exact Nat.mul_le_mul_right _ h1, h4⟩
    have fz : ∀ i, W7.frozen? ⟨g6, i, none⟩ = false := fun i => unfrozen_of_blk hcur i
    have ce : ∀ i, i < 3 → ∃ v, W7.cell? ⟨g6, AL * 3 + i, none⟩ = some v := fun i hi => by rw [cell_of_blk hcur, Array.getElem?_eq_getElem (by omega)]; exact ⟨_, rfl⟩
    obtain ⟨v0, hv0⟩ := ce 0 (by omega)
    obtain ⟨v1, hv1⟩ := ce 1 (by omega)
    obtain ⟨v2, hv2⟩ := ce 2 (by omega)
    rw [Nat.add_zero] at hv0
    have s0 : W7.cell? ⟨w.heap.size + 1 + 1, 0, none⟩ = some (.int .i64 0) := (cell_of_blk r1 0).trans rfl
    have s1 : W7.cell? ⟨w.heap.size + 1 + 1, 1, none⟩ = some (.int .i64 0) := (cell_of_blk r1 1).trans rfl
    have s2 : W7.cell? ⟨w.heap.size + 1 + 1, 2, none⟩ = some (.slice none 0 0) := (cell_of_blk r1 2).trans rfl
    have fr : ∀ i, W7.frozen? ⟨w.heap.size + 1 + 1, i, none⟩ = false := fun i => unfrozen_of_blk r1 i
    have HCur := hide hcur
    have HR1 := hide r1
    have HO7 := hide hO7
    have HB7 := hide hB7
    have m1 : ¬ g6 = w.heap.size + 1 := by omega
    have m2 : ¬ g6 = w.heap.size := by omega
    have m3 : ¬ g6 = w.heap.size + 1 + 1 := by omega
    have m4 : ¬ O = w.heap.size + 1 + 1 := by omega
    have m5 : ¬ g6 = O := hne
    clear e0 e1 e2 f0 f1 f2 ce hcur r0 r1 hO7 hB7 hOw7
    go_wp2_with fail
    obtain ⟨W8, hW8⟩ : ∃ W8, W8 = ((W7.setCell ⟨g6, AL * 3, none⟩ (.int .i64 z.k)).setCell ⟨g6, AL * 3 + 1, none⟩ (.int .i64 z.n)).setCell ⟨g6, AL * 3 + 2, none⟩ (.slice zad ZN zc) := ⟨_, rfl⟩
    rw [← hW8]
    have hB8 : Below w.heap.size w W8 := by
      rw [hW8]
      exact (((HB0.out.trans (HB7.out.mono HB0.out.size)).setCell (p := ⟨g6, AL * 3, none⟩) (by show w.heap.size ≤ g6; omega) _).setCell (p := ⟨g6, AL * 3 + 1, none⟩) (by show w.heap.size ≤ g6; omega) _).setCell (p := ⟨g6, AL * 3 + 2, none⟩) (by show w.heap.size ≤ g6; omega) _
    have hc8 : W8.heap[g6]? = some (.cells (((cur.setIfInBounds (AL * 3) (.int .i64 z.k)).setIfInBounds (AL * 3 + 1) (.int .i64 z.n)).setIfInBounds (AL * 3 + 2) (.slice zad ZN zc)) 55 (0, 0)) := by rw [hW8]; exact blk_setCell (blk_setCell (blk_setCell HCur.out _) _) _
    have hr8 : W8.heap[w.heap.size + 1 + 1]? = some (.cells #[.int .i64 0, .int .i64 0, .slice none 0 0] 55 (0, 0)) := by rw [hW8, Below.heap_setCell _ _ _ _ (Ne.symm m3), Below.heap_setCell _ _ _ _ (Ne.symm m3), Below.heap_setCell _ _ _ _ (Ne.symm m3)]; exact HR1.out
    have hr9 := blk_setCell (i := 2) (blk_setCell (i := 1) (blk_setCell (i := 0) hr8 (.int .i64 x.k)) (.int .i64 x.n)) (.slice (some ⟨g6, 0, none⟩) n cap6)
    have t0 := (cell_of_blk hr9 0).trans rfl
    have t1 := (cell_of_blk hr9 1).trans rfl
    have t2 := (cell_of_blk hr9 2).trans rfl
    have hB9 := ((hB8.setCell (p := ⟨w.heap.size + 1 + 1, 0, none⟩) (by show w.heap.size ≤ w.heap.size + 1 + 1; omega) (.int .i64 x.k)).setCell (p := ⟨w.heap.size + 1 + 1, 1, none⟩) (by show w.heap.size ≤ w.heap.size + 1 + 1; omega) (.int .i64 x.n)).setCell (p := ⟨w.heap.size + 1 + 1, 2, none⟩) (by show w.heap.size ≤ w.heap.size + 1 + 1; omega) (.slice (some ⟨g6, 0, none⟩) n cap6)
    refine bodyPost_ret (v := .agg #[.int .i64 x.k, .int .i64 x.n, .slice (some ⟨g6, 0, none⟩) n cap6]) (by simp [results, Try.results75, go_sem, t0, t1, t2]) rfl ⟨_, rfl, ?_, hB9⟩
    obtain ⟨ca, cb, k1', ha, sy, cr, k2', hy, hr⟩ := HK.out.split
    have hcal : ca.length = AL * 3 := by rw [ha.len, HAL.out]
    have hlen : (a.app (.cons z kz r)).len = n := by rw [HNn.out, F.app_len, F.app_len]; rfl
    have hkeep : ∀ k, P k → k < w.heap.size → _ := fun k hp hk => (⟨hB9.block k hk, .inl (.inl hp)⟩ : _ ∧ ((P k ∨ Q k) ∨ w.heap.size ≤ k))
    refine ⟨ca ++ (tC z (.slice zad ZN zc) ++ cr), KidsAt.app (ha.keep hB9.size hkeep) ⟨.slice zad ZN zc, cr, rfl, HZ.out.keep hB9.size (fun k hp hk => ⟨hB9.block k hk, .inl (.inr hp)⟩), hr.keep hB9.size hkeep⟩, .inr ⟨by rw [hlen]; omega, g6, cap6, by rw [hlen], .inr (by omega), ?_, ?_⟩⟩
    · have := (Array.getElem?_eq_some_iff.1 hc8).1
      simpa [World.setCell] using this
    · intro j v hj
      have hput := row_put (cur := cur) (ca := ca) (cr := cr) (v0 := .int .i64 z.k) (v1 := .int .i64 z.n) (v2 := .slice zad ZN zc) (by rw [hct, k1', k2']; rfl) hcs j v hj
      rw [hcal] at hput
      have hc9 : ((((W8.setCell ⟨w.heap.size + 1 + 1, 0, none⟩ (.int .i64 x.k)).setCell ⟨w.heap.size + 1 + 1, 1, none⟩ (.int .i64 x.n)).setCell ⟨w.heap.size + 1 + 1, 2, none⟩ (.slice (some ⟨g6, 0, none⟩) n cap6))).heap[g6]? = some (.cells (((cur.setIfInBounds (AL * 3) (.int .i64 z.k)).setIfInBounds (AL * 3 + 1) (.int .i64 z.n)).setIfInBounds (AL * 3 + 2) (.slice zad ZN zc)) 55 (0, 0)) := by
        rw [Below.heap_setCell _ _ _ _ m3, Below.heap_setCell _ _ _ _ m3, Below.heap_setCell _ _ _ _ m3]; exact hc8
      rw [cell_of_blk hc9]
      exact hput
  · obtain ⟨W7, hW7⟩ : ∃ W7, W7 = (((w6.setCell ⟨w0.heap.size, 0, none⟩ (.int .i64 x.k)).setCell ⟨w0.heap.size, 1, none⟩ (.int .i64 x.n)).setCell ⟨w0.heap.size, 2, none⟩ (.slice (some ⟨g6, 0, none⟩) n cap6)) := ⟨_, rfl⟩
    rw [← hW7]
    have hO7 : W7.heap[w0.heap.size]? = some (.cells #[.int .i64 x.k, .int .i64 x.n, .slice (some ⟨g6, 0, none⟩) n cap6] 55 (0, 0)) := by rw [hW7]; exact blk_setCell (i := 2) (blk_setCell (i := 1) (blk_setCell (i := 0) HY6.out (.int .i64 x.k)) (.int .i64 x.n)) (.slice (some ⟨g6, 0, none⟩) n cap6)
    have hB7 : Below w0.heap.size w0 W7 := by rw [hW7]; exact ((HB6.out.setCell (p := ⟨w0.heap.size, 0, none⟩) (by simp) _).setCell (p := ⟨w0.heap.size, 1, none⟩) (by simp) _).setCell (p := ⟨w0.heap.size, 2, none⟩) (by simp) _
    have hOw7 : W7.ownsRow w.heap.size 55 3 (.slice (some ⟨g6, 0, none⟩) n cap6) n ck := by rw [hW7]; exact tOwn_set (tOwn_set (tOwn_set (by have h := HO6.out; rw [Nat.zero_add, List.nil_append] at h; exact h) hgO _ _) hgO _ _) hgO _ _
    have hne : g6 ≠ w0.heap.size := hgO
    obtain ⟨O, hO⟩ : ∃ O, O = w0.heap.size := ⟨_, rfl⟩
    rw [← hO] at hO7 hne ⊢
    have hOge : w0.heap.size ≤ O := by omega
    clear hW7 hO
    have r0 := (hB7.block (w.heap.size + 1) (by omega)).trans HbZ.out
    have r1 := (hB7.block (w.heap.size + 1 + 1) (by omega)).trans HbR.out
    have d0 : W7.cell? ⟨O, 0, none⟩ = some (.int .i64 x.k) := (cell_of_blk hO7 0).trans rfl
    have d1 : W7.cell? ⟨O, 1, none⟩ = some (.int .i64 x.n) := (cell_of_blk hO7 1).trans rfl
    have d2 : W7.cell? ⟨O, 2, none⟩ = some (.slice (some ⟨g6, 0, none⟩) n cap6) := (cell_of_blk hO7 2).trans rfl
    have c0 : W7.cell? ⟨w.heap.size + 1, 0, none⟩ = some (.int .i64 z.k) := (cell_of_blk r0 0).trans rfl
    have c1 : W7.cell? ⟨w.heap.size + 1, 1, none⟩ = some (.int .i64 z.n) := (cell_of_blk r0 1).trans rfl
    have c2 : W7.cell? ⟨w.heap.size + 1, 2, none⟩ = some (.slice zad ZN zc) := (cell_of_blk r0 2).trans rfl
    obtain ⟨cur, hcur, hcs, hct⟩ : ∃ cur : Array Value, W7.heap[g6]? = some (.cells cur 55 (0, 0)) ∧ n * 3 ≤ cur.size ∧ cur.toList.take (n * 3) = ck := by
      rcases hOw7.2 with ⟨h, -⟩ | ⟨g', cap', cur, hv, -, hh, h1, -, h3, h4⟩
      · cases h
      · simp only [Value.slice.injEq, Option.some.injEq, Addr.mk.injEq] at hv
        obtain ⟨⟨rfl, -, -⟩, -, rfl⟩ := hv
        exact ⟨cur, hh, by rw [h3]; exact Nat.mul_le_mul_right _ h1, h4⟩
    have fz : ∀ i, W7.frozen? ⟨g6, i, none⟩ = false := fun i => unfrozen_of_blk hcur i
    have ce : ∀ i, i < 3 → ∃ v, W7.cell? ⟨g6, AL * 3 + i, none⟩ = some v := fun i hi => by rw [cell_of_blk hcur, Array.getElem?_eq_getElem (by omega)]; exact ⟨_, rfl⟩
    obtain ⟨v0, hv0⟩ := ce 0 (by omega)
    obtain ⟨v1, hv1⟩ := ce 1 (by omega)
    obtain ⟨v2, hv2⟩ := ce 2 (by omega)
    rw [Nat.add_zero] at hv0
    have s0 : W7.cell? ⟨w.heap.size + 1 + 1, 0, none⟩ = some (.int .i64 0) := (cell_of_blk r1 0).trans rfl
    have s1 : W7.cell? ⟨w.heap.size + 1 + 1, 1, none⟩ = some (.int .i64 0) := (cell_of_blk r1 1).trans rfl
    have s2 : W7.cell? ⟨w.heap.size + 1 + 1, 2, none⟩ = some (.slice none 0 0) := (cell_of_blk r1 2).trans rfl
    have fr : ∀ i, W7.frozen? ⟨w.heap.size + 1 + 1, i, none⟩ = false := fun i => unfrozen_of_blk r1 i
    have HCur := hide hcur
    have HR1 := hide r1
    have HO7 := hide hO7
    have HB7 := hide hB7
    have m1 : ¬ g6 = w.heap.size + 1 := by omega
    have m2 : ¬ g6 = w.heap.size := by omega
    have m3 : ¬ g6 = w.heap.size + 1 + 1 := by omega
    have m4 : ¬ O = w.heap.size + 1 + 1 := by omega
    have m5 : ¬ g6 = O := hne
    clear e0 e1 e2 f0 f1 f2 ce hcur r0 r1 hO7 hB7 hOw7
    go_wp2_with fail
    obtain ⟨W8, hW8⟩ : ∃ W8, W8 = ((W7.setCell ⟨g6, AL * 3, none⟩ (.int .i64 z.k)).setCell ⟨g6, AL * 3 + 1, none⟩ (.int .i64 z.n)).setCell ⟨g6, AL * 3 + 2, none⟩ (.slice zad ZN zc) := ⟨_, rfl⟩
    rw [← hW8]
    have hB8 : Below w.heap.size w W8 := by
      rw [hW8]
      exact (((HB0.out.trans (HB7.out.mono HB0.out.size)).setCell (p := ⟨g6, AL * 3, none⟩) (by show w.heap.size ≤ g6; omega) _).setCell (p := ⟨g6, AL * 3 + 1, none⟩) (by show w.heap.size ≤ g6; omega) _).setCell (p := ⟨g6, AL * 3 + 2, none⟩) (by show w.heap.size ≤ g6; omega) _
    have hc8 : W8.heap[g6]? = some (.cells (((cur.setIfInBounds (AL * 3) (.int .i64 z.k)).setIfInBounds (AL * 3 + 1) (.int .i64 z.n)).setIfInBounds (AL * 3 + 2) (.slice zad ZN zc)) 55 (0, 0)) := by rw [hW8]; exact blk_setCell (blk_setCell (blk_setCell HCur.out _) _) _
    have hr8 : W8.heap[w.heap.size + 1 + 1]? = some (.cells #[.int .i64 0, .int .i64 0, .slice none 0 0] 55 (0, 0)) := by rw [hW8, Below.heap_setCell _ _ _ _ (Ne.symm m3), Below.heap_setCell _ _ _ _ (Ne.symm m3), Below.heap_setCell _ _ _ _ (Ne.symm m3)]; exact HR1.out
    have hr9 := blk_setCell (i := 2) (blk_setCell (i := 1) (blk_setCell (i := 0) hr8 (.int .i64 x.k)) (.int .i64 x.n)) (.slice (some ⟨g6, 0, none⟩) n cap6)
    have t0 := (cell_of_blk hr9 0).trans rfl
    have t1 := (cell_of_blk hr9 1).trans rfl
    have t2 := (cell_of_blk hr9 2).trans rfl
    have hB9 := ((hB8.setCell (p := ⟨w.heap.size + 1 + 1, 0, none⟩) (by show w.heap.size ≤ w.heap.size + 1 + 1; omega) (.int .i64 x.k)).setCell (p := ⟨w.heap.size + 1 + 1, 1, none⟩) (by show w.heap.size ≤ w.heap.size + 1 + 1; omega) (.int .i64 x.n)).setCell (p := ⟨w.heap.size + 1 + 1, 2, none⟩) (by show w.heap.size ≤ w.heap.size + 1 + 1; omega) (.slice (some ⟨g6, 0, none⟩) n cap6)
    refine bodyPost_ret (v := .agg #[.int .i64 x.k, .int .i64 x.n, .slice (some ⟨g6, 0, none⟩) n cap6]) (by simp [results, Try.results75, go_sem, t0, t1, t2]) rfl ⟨_, rfl, ?_, hB9⟩
    obtain ⟨ca, cb, k1', ha, sy, cr, k2', hy, hr⟩ := HK.out.split
    have hcal : ca.length = AL * 3 := by rw [ha.len, HAL.out]
    have hlen : (a.app (.cons z kz r)).len = n := by rw [HNn.out, F.app_len, F.app_len]; rfl
    have hkeep : ∀ k, P k → k < w.heap.size → _ := fun k hp hk => (⟨hB9.block k hk, .inl (.inl hp)⟩ : _ ∧ ((P k ∨ Q k) ∨ w.heap.size ≤ k))
    refine ⟨ca ++ (tC z (.slice zad ZN zc) ++ cr), KidsAt.app (ha.keep hB9.size hkeep) ⟨.slice zad ZN zc, cr, rfl, HZ.out.keep hB9.size (fun k hp hk => ⟨hB9.block k hk, .inl (.inr hp)⟩), hr.keep hB9.size hkeep⟩, .inr ⟨by rw [hlen]; omega, g6, cap6, by rw [hlen], .inr (by omega), ?_, ?_⟩⟩
    · have := (Array.getElem?_eq_some_iff.1 hc8).1
      simpa [World.setCell] using this
    · intro j v hj
      have hput := row_put (cur := cur) (ca := ca) (cr := cr) (v0 := .int .i64 z.k) (v1 := .int .i64 z.n) (v2 := .slice zad ZN zc) (by rw [hct, k1', k2']; rfl) hcs j v hj
      rw [hcal] at hput
      have hc9 : ((((W8.setCell ⟨w.heap.size + 1 + 1, 0, none⟩ (.int .i64 x.k)).setCell ⟨w.heap.size + 1 + 1, 1, none⟩ (.int .i64 x.n)).setCell ⟨w.heap.size + 1 + 1, 2, none⟩ (.slice (some ⟨g6, 0, none⟩) n cap6))).heap[g6]? = some (.cells (((cur.setIfInBounds (AL * 3) (.int .i64 z.k)).setIfInBounds (AL * 3 + 1) (.int .i64 z.n)).setIfInBounds (AL * 3 + 2) (.slice zad ZN zc)) 55 (0, 0)) := by
        rw [Below.heap_setCell _ _ _ _ m3, Below.heap_setCell _ _ _ _ m3, Below.heap_setCell _ _ _ _ m3]; exact hc8
      rw [cell_of_blk hc9]
      exact hput
end Go.Proofs.Ytjmgnljjeogdlaa.W

/-
  A term developed by the specification: a contract of l4Develop. Conditions: good terms.
-/
namespace Go.Proofs.Ytjmgnljjeogdlaa.W
open Go.ChangeShapes Go.WideShapes Go.ChangeAt Go.RowKit
set_option linter.unusedVariables false

def DVGoal (k : F) : Prop := ∀ (x : Cc) (s : Value) (P : Nat → Prop) (w : World), okT x k → k.flat.length + 1 ≤ 600 → KidT w P k s →
    Calls Try.prog 41 #[.agg #[.int .i64 x.k, .int .i64 x.n, s]] w fun e w' => TO w' (fun g => w.heap.size ≤ g) (dv x k) e ∧ Below w.heap.size w w'

set_option maxRecDepth 20000 in
set_option maxHeartbeats 8000000 in
theorem l4Develop_any : ∀ k, DVGoal k := by
  apply F.rec_kids
  intro k ih x s P w hok hl hT0
  have IH := hide ih
  have HOk := hide hok
  have HT := hide hT0
  have hkl3 : k.len ≤ 3 := by rw [hok.2.1]; exact ar_le _
  have HIs := hide (fun (w' : World) (hb : Below w.heap.size w w') => l4Is_any x k s _ w' hok.2.1 hok.2.2 (HT.out.below hb))
  obtain ⟨i0, hi0, hz0, hz1, hz2⟩ := infoPartsT infoT
  have Hi := hide hi0
  clear hi0
  obtain ⟨sad, sc, rfl⟩ := hT0.form
  obtain ⟨KL, hKL⟩ : ∃ KL, KL = k.len := ⟨_, rfl⟩
  obtain ⟨R, hR⟩ : ∃ R, R = dv x k := ⟨_, rfl⟩
  rw [← hR]
  rw [← hKL] at HT HIs hkl3 ⊢
  have HKL := hide hKL
  obtain ⟨xk, xn⟩ := x
  have HR := hide hR
  simp only at HIs ⊢
  clear ih hok hT0 hR hKL
  go_enter Try.func41, Try.ntmps41
  go_wp2_with fail
  obtain ⟨w0, hw0⟩ : ∃ w0, w0 = (((w.alloc (.cells #[.int .i64 xk, .int .i64 xn, .slice sad KL sc] 55)).alloc (.cells #[.int .i64 0, .int .i64 0, .slice none 0 0] 55)).alloc (.cells #[.int .i64 xk, .int .i64 xn, .slice none 0 0] 55)) := ⟨_, rfl⟩
  have hB0 : Below w.heap.size w w0 := by rw [hw0]; exact (((Below.refl _ _).alloc (Nat.le_refl _) _).alloc (by simp) _).alloc (by simp; omega) _
  have hbT : w0.heap[w.heap.size]? = some (.cells #[.int .i64 xk, .int .i64 xn, .slice sad KL sc] 55) := by rw [hw0, heap_alloc_old _ _ (by simp; omega), heap_alloc_old _ _ (by simp)]; exact heap_alloc_new _ _
  have hbR : w0.heap[w.heap.size + 1]? = some (.cells #[.int .i64 0, .int .i64 0, .slice none 0 0] 55) := by rw [hw0, heap_alloc_old _ _ (by simp)]; have := heap_alloc_new (w.alloc (.cells #[.int .i64 xk, .int .i64 xn, .slice sad KL sc] 55)) (.cells #[.int .i64 0, .int .i64 0, .slice none 0 0] 55); simpa using this
  have hbO : w0.heap[w.heap.size + 1 + 1]? = some (.cells #[.int .i64 xk, .int .i64 xn, .slice none 0 0] 55) := by rw [hw0]; have := heap_alloc_new ((w.alloc (.cells #[.int .i64 xk, .int .i64 xn, .slice sad KL sc] 55)).alloc (.cells #[.int .i64 0, .int .i64 0, .slice none 0 0] 55)) (.cells #[.int .i64 xk, .int .i64 xn, .slice none 0 0] 55); simpa using this
  have hsz0 : w0.heap.size = w.heap.size + 1 + 1 + 1 := by rw [hw0]; simp
  rw [← hw0]
  have HT0 := hide hbT
  have HR0 := hide hbR
  have HO0 := hide hbO
  have HSz0 := hide hsz0
  clear hw0 hbT hbR hbO hsz0
  go_loopw [17] (fun i w' => ∃ (a b a' : F) (so : Value) (cs : List Value), k = a.app b ∧ i = .int .i64 (a.len : Int) ∧ dvF a = some a' ∧ a'.flat.length ≤ 600 * a.len ∧ Below w.heap.size w w' ∧ w0.heap.size ≤ w'.heap.size ∧ w'.heap[w.heap.size]? = some (.cells #[.int .i64 xk, .int .i64 xn, .slice sad KL sc] 55 (0, 0)) ∧ w'.heap[w.heap.size + 1]? = some (.cells #[.int .i64 0, .int .i64 0, .slice none 0 0] 55 (0, 0)) ∧ w'.heap[w.heap.size + 1 + 1]? = some (.cells #[.int .i64 xk, .int .i64 xn, so] 55 (0, 0)) ∧
      KidsAt w' (fun g => w0.heap.size ≤ g ∧ so.ownBlock ≠ some g) a' cs ∧ w'.ownsRow w0.heap.size 55 3 so a.len cs ∧ Holds w' (fun g => w0.heap.size ≤ g) so a.len cs) (fun i _ => KL - (intOf i).toNat)
  case atStart => exact ⟨.nil, k, .nil, _, [], rfl, rfl, rfl, by simp [F.flat], hB0, Nat.le_refl _, HT0.out, HR0.out, HO0.out, rfl, World.ownsRow_nil _ _ _ _, .inl ⟨rfl, rfl⟩⟩
  case round =>
    obtain ⟨a, bb, a', so, cs, hk, rfl, hda, ha4, hBr, hszr, hbT, hbR, hbO, hKs, hOw, hHo⟩ := hrel
    clear HT0 HR0 HO0 hB0
    have HDa := hide hda
    have HT1 := hide hbT
    have HR1 := hide hbR
    have HO1 := hide hbO
    have HKs := hide hKs
    have HOw := hide hOw
    have HHo := hide hHo
    obtain ⟨oad, oc, hform⟩ := iOwn_form hOw
    subst hform
    clear hda hbT hbR hbO hKs hOw hHo
    cases bb with
    | nil =>
      rw [F.app_nil] at hk
      subst hk
      have hKL := HKL.out
      rw [← hKL]
      rw [← hKL] at HO1 HHo HOw ha4
      have hsz0 := HSz0.out
      have hdv : R = if a'.flat.length + 1 ≤ 600 then (if redx ⟨xk, xn⟩ k = true then ctrO ⟨xk, xn⟩ a' else some (⟨xk, xn⟩, a')) else none := by rw [HR.out]; unfold dv; rw [HDa.out]
      have HDv := hide hdv
      have hkt : KidT wr (fun g => w0.heap.size ≤ g) a' (.slice oad KL oc) := ⟨cs, HKs.out.keep (Nat.le_refl _) (fun g h1 _ => ⟨rfl, h1.1⟩), by rw [dvF_len HDa.out, ← hKL]; exact HHo.out⟩
      have HKt := hide hkt
      have HSi := hide (fun (w' : World) (hb : Below wr.heap.size wr w') => l3Size_any a' ⟨xk, xn⟩ (.slice oad KL oc) _ w' (by omega) (hkt.below hb))
      have HWk := hide (fun hrd => dv_red HOk.out hrd HDa.out (dvF_B HOk.out.2.2 (by omega) HDa.out))
      have y0 : wr.cell? ⟨w.heap.size + 1 + 1, 0, none⟩ = some (.int .i64 xk) := (cell_of_blk HO1.out 0).trans rfl
      have y1 : wr.cell? ⟨w.heap.size + 1 + 1, 1, none⟩ = some (.int .i64 xn) := (cell_of_blk HO1.out 1).trans rfl
      have y2 : wr.cell? ⟨w.heap.size + 1 + 1, 2, none⟩ = some (.slice oad KL oc) := (cell_of_blk HO1.out 2).trans rfl
      obtain ⟨AN, hAN⟩ : ∃ AN, AN = a'.flat.length := ⟨_, rfl⟩
      rw [← hAN] at HDv HSi ha4
      have HAN := hide hAN
      clear hKL hdv hkt hAN
      go_wp2_with fail
      refine Calls.mono (HSi.out _ (Below.refl _ _)) ?_
      rintro e w2 ⟨rfl, hb2⟩
      have hB2 : Below w.heap.size w w2 := hBr.trans (hb2.mono hBr.size)
      have hs2 := hb2.size
      have HO2 := hide ((hb2.block (w.heap.size + 1 + 1) (by omega)).trans HO1.out)
      have HR2 := hide ((hb2.block (w.heap.size + 1) (by omega)).trans HR1.out)
      have HT2 := hide ((hb2.block w.heap.size (by omega)).trans HT1.out)
      have HKt2 := hide (HKt.out.below hb2)
      clear y0 y1 y2 HSi hb2 HKt
      by_cases h6 : AN + 1 ≤ 600
      · have h6' : ¬ (600 : Int) < ((AN + 1 : Nat) : Int) := by omega
        have t0 : w2.cell? ⟨w.heap.size, 0, none⟩ = some (.int .i64 xk) := (cell_of_blk HT2.out 0).trans rfl
        have t1 : w2.cell? ⟨w.heap.size, 1, none⟩ = some (.int .i64 xn) := (cell_of_blk HT2.out 1).trans rfl
        have t2 : w2.cell? ⟨w.heap.size, 2, none⟩ = some (.slice sad KL sc) := (cell_of_blk HT2.out 2).trans rfl
        go_wp2_with fail
        refine Calls.mono (HIs.out _ hB2) ?_
        rintro e w3 ⟨rfl, hb3⟩
        have hB3 : Below w.heap.size w w3 := hB2.trans (hb3.mono hB2.size)
        have hs3 := hb3.size
        have HO3 := hide ((hb3.block (w.heap.size + 1 + 1) (by omega)).trans HO2.out)
        have HR3 := hide ((hb3.block (w.heap.size + 1) (by omega)).trans HR2.out)
        have HKt3 := hide (HKt2.out.below hb3)
        have y0 : w3.cell? ⟨w.heap.size + 1 + 1, 0, none⟩ = some (.int .i64 xk) := (cell_of_blk HO3.out 0).trans rfl
        have y1 : w3.cell? ⟨w.heap.size + 1 + 1, 1, none⟩ = some (.int .i64 xn) := (cell_of_blk HO3.out 1).trans rfl
        have y2 : w3.cell? ⟨w.heap.size + 1 + 1, 2, none⟩ = some (.slice oad KL oc) := (cell_of_blk HO3.out 2).trans rfl
        clear t0 t1 t2 HIs hb3 HKt2 HO2 HR2 HT2
        cases hrd : redx ⟨xk, xn⟩ k with
        | false =>
          have hRe : R = some (⟨xk, xn⟩, a') := by rw [HDv.out, if_pos h6, if_neg (by rw [hrd]; simp)]
          subst hRe
          have a0 : w3.cell? ⟨w.heap.size + 1, 0, none⟩ = some (.int .i64 0) := (cell_of_blk HR3.out 0).trans rfl
          have a1 : w3.cell? ⟨w.heap.size + 1, 1, none⟩ = some (.int .i64 0) := (cell_of_blk HR3.out 1).trans rfl
          have a2 : w3.cell? ⟨w.heap.size + 1, 2, none⟩ = some (.slice none 0 0) := (cell_of_blk HR3.out 2).trans rfl
          have fa := unfrozen_of_blk HR3.out
          clear hrd
          go_wp2_with fail
          have hr9 := blk_setCell (i := 2) (blk_setCell (i := 1) (blk_setCell (i := 0) (HR3.out) (.int .i64 xk)) (.int .i64 xn)) (.slice oad KL oc)
          have b0 := (cell_of_blk hr9 0).trans rfl
          have b1 := (cell_of_blk hr9 1).trans rfl
          have b2 := (cell_of_blk hr9 2).trans rfl
          have hB9 := ((hB3.setCell (p := ⟨w.heap.size + 1, 0, none⟩) (by show w.heap.size ≤ w.heap.size + 1; omega) (.int .i64 xk)).setCell (p := ⟨w.heap.size + 1, 1, none⟩) (by show w.heap.size ≤ w.heap.size + 1; omega) (.int .i64 xn)).setCell (p := ⟨w.heap.size + 1, 2, none⟩) (by show w.heap.size ≤ w.heap.size + 1; omega) (.slice oad KL oc)
          refine bodyPost_ret (v := .tuple #[.agg #[.int .i64 xk, .int .i64 xn, .slice oad KL oc], .bool true]) (by simp [results, Try.results41, go_sem, b0, b1, b2]) rfl ⟨⟨_, rfl, HKt3.out.keep (by simp [World.setCell]) (fun q h1 h2 => ?_)⟩, hB9⟩
          have hq : q ≠ w.heap.size + 1 := by have h1' : w0.heap.size ≤ q := h1; omega
          exact ⟨by rw [Below.heap_setCell _ _ _ _ hq, Below.heap_setCell _ _ _ _ hq, Below.heap_setCell _ _ _ _ hq], by have h1' : w0.heap.size ≤ q := h1; omega⟩
        | true =>
          have hRe : R = ctrO ⟨xk, xn⟩ a' := by rw [HDv.out, if_pos h6, if_pos hrd]
          have HCt := hide (l4Contract_w (B := 99 + 600 * k.flat.length) (by omega) ⟨xk, xn⟩ a' (.slice oad KL oc) _ w3 (HWk.out hrd) (by rw [← HAN.out]; exact h6) HKt3.out)
          rw [← hRe] at HCt
          simp only at HCt
          clear hRe hrd
          go_wp2_with fail
          refine Calls.mono HCt.out ?_
          rintro e w4 ⟨hto, hb4⟩
          have hB4 : Below w.heap.size w w4 := hB3.trans (hb4.mono hB3.size)
          have hs4 := hb4.size
          have HR4 := hide ((hb4.block (w.heap.size + 1) (by omega)).trans HR3.out)
          have a0 : w4.cell? ⟨w.heap.size + 1, 0, none⟩ = some (.int .i64 0) := (cell_of_blk HR4.out 0).trans rfl
          have a1 : w4.cell? ⟨w.heap.size + 1, 1, none⟩ = some (.int .i64 0) := (cell_of_blk HR4.out 1).trans rfl
          have a2 : w4.cell? ⟨w.heap.size + 1, 2, none⟩ = some (.slice none 0 0) := (cell_of_blk HR4.out 2).trans rfl
          have fa := unfrozen_of_blk HR4.out
          clear y0 y1 y2 HCt hb4 HDv HR
          cases R with
          | none =>
            obtain rfl : e = .returned (.tuple #[.agg #[.int .i64 0, .int .i64 0, .slice none 0 0], .bool false]) := hto
            go_wp2_with fail
            have hr9 := blk_setCell (i := 2) (blk_setCell (i := 1) (blk_setCell (i := 0) (HR4.out) (.int .i64 0)) (.int .i64 0)) (.slice none 0 0)
            have b0 := (cell_of_blk hr9 0).trans rfl
            have b1 := (cell_of_blk hr9 1).trans rfl
            have b2 := (cell_of_blk hr9 2).trans rfl
            have hB9 := ((hB4.setCell (p := ⟨w.heap.size + 1, 0, none⟩) (by show w.heap.size ≤ w.heap.size + 1; omega) (.int .i64 0)).setCell (p := ⟨w.heap.size + 1, 1, none⟩) (by show w.heap.size ≤ w.heap.size + 1; omega) (.int .i64 0)).setCell (p := ⟨w.heap.size + 1, 2, none⟩) (by show w.heap.size ≤ w.heap.size + 1; omega) (.slice none 0 0)
            exact bodyPost_ret (v := .tuple #[.agg #[.int .i64 0, .int .i64 0, .slice none 0 0], .bool false]) (by simp [results, Try.results41, go_sem, b0, b1, b2]) rfl ⟨rfl, hB9⟩
          | some p =>
            obtain ⟨s4, rfl, hK4⟩ : ∃ s', e = .returned (.tuple #[.agg #[.int .i64 p.1.k, .int .i64 p.1.n, s'], .bool true]) ∧ KidT w4 _ p.2 s' := hto
            obtain ⟨pad, pc, hpf⟩ := hK4.form
            subst hpf
            obtain ⟨PN, hPN⟩ : ∃ PN, PN = p.2.len := ⟨_, rfl⟩
            have HK4 := hide hK4
            rw [← hPN] at HK4 ⊢
            clear hK4 hPN
            go_wp2_with fail
            have hr9 := blk_setCell (i := 2) (blk_setCell (i := 1) (blk_setCell (i := 0) (HR4.out) (.int .i64 p.1.k)) (.int .i64 p.1.n)) (.slice pad PN pc)
            have b0 := (cell_of_blk hr9 0).trans rfl
            have b1 := (cell_of_blk hr9 1).trans rfl
            have b2 := (cell_of_blk hr9 2).trans rfl
            have hB9 := ((hB4.setCell (p := ⟨w.heap.size + 1, 0, none⟩) (by show w.heap.size ≤ w.heap.size + 1; omega) (.int .i64 p.1.k)).setCell (p := ⟨w.heap.size + 1, 1, none⟩) (by show w.heap.size ≤ w.heap.size + 1; omega) (.int .i64 p.1.n)).setCell (p := ⟨w.heap.size + 1, 2, none⟩) (by show w.heap.size ≤ w.heap.size + 1; omega) (.slice pad PN pc)
            refine bodyPost_ret (v := .tuple #[.agg #[.int .i64 p.1.k, .int .i64 p.1.n, .slice pad PN pc], .bool true]) (by simp [results, Try.results41, go_sem, b0, b1, b2]) rfl ⟨⟨_, rfl, HK4.out.keep (by simp [World.setCell]) (fun q h1 h2 => ?_)⟩, hB9⟩
            have h1' : w0.heap.size ≤ q := h1.elim (fun h => h) (fun h => by omega)
            have hq : q ≠ w.heap.size + 1 := by omega
            exact ⟨by rw [Below.heap_setCell _ _ _ _ hq, Below.heap_setCell _ _ _ _ hq, Below.heap_setCell _ _ _ _ hq], by omega⟩
      · have h6' : (600 : Int) < ((AN + 1 : Nat) : Int) := by omega
        have hRe : R = none := by rw [HDv.out, if_neg h6]
        subst hRe
        have a0 : w2.cell? ⟨w.heap.size + 1, 0, none⟩ = some (.int .i64 0) := (cell_of_blk HR2.out 0).trans rfl
        have a1 : w2.cell? ⟨w.heap.size + 1, 1, none⟩ = some (.int .i64 0) := (cell_of_blk HR2.out 1).trans rfl
        have a2 : w2.cell? ⟨w.heap.size + 1, 2, none⟩ = some (.slice none 0 0) := (cell_of_blk HR2.out 2).trans rfl
        have fa := unfrozen_of_blk HR2.out
        go_wp2_with fail
        have hr9 := blk_setCell (i := 2) (blk_setCell (i := 1) (blk_setCell (i := 0) (HR2.out) (.int .i64 0)) (.int .i64 0)) (.slice none 0 0)
        have b0 := (cell_of_blk hr9 0).trans rfl
        have b1 := (cell_of_blk hr9 1).trans rfl
        have b2 := (cell_of_blk hr9 2).trans rfl
        have hB9 := ((hB2.setCell (p := ⟨w.heap.size + 1, 0, none⟩) (by show w.heap.size ≤ w.heap.size + 1; omega) (.int .i64 0)).setCell (p := ⟨w.heap.size + 1, 1, none⟩) (by show w.heap.size ≤ w.heap.size + 1; omega) (.int .i64 0)).setCell (p := ⟨w.heap.size + 1, 2, none⟩) (by show w.heap.size ≤ w.heap.size + 1; omega) (.slice none 0 0)
        exact bodyPost_ret (v := .tuple #[.agg #[.int .i64 0, .int .i64 0, .slice none 0 0], .bool false]) (by simp [results, Try.results41, go_sem, b0, b1, b2]) rfl ⟨rfl, hB9⟩
    | cons y ky bb =>
      have hsz0 := HSz0.out
      have hkl2 : KL = a.len + (bb.len + 1) := by rw [HKL.out, hk, F.app_len]; rfl
      have hlt' : (a.len : Int) < (KL : Int) := by omega
      have hd0 : (0 : Int) ≤ (a.len : Int) := by omega
      have hfk : k.flat.length = a.flat.length + (1 + ky.flat.length + bb.flat.length) := by rw [hk, F.app_flat]; simp [F.flat]; omega
      have hI := IH.out
      have hO := HOk.out.2.2
      rw [hk] at hI hO
      obtain ⟨gy, ly, oy, orr⟩ := ((F.app_ok _ _).1 hO).2
      obtain ⟨g, cap, sy, he, hPg, hg, hTy, p0, p1, p2⟩ := KidT.kid (a := a) (k := ky) (r := bb) (x := y) (s := .slice sad KL sc) (by rw [← hk]; exact HT.out)
      simp only [Value.slice.injEq] at he
      obtain ⟨rfl, -, rfl⟩ := he
      have q0 := (hBr.cell (p := ⟨g, a.len * 3, none⟩) hg).trans p0
      have q1 := (hBr.cell (p := ⟨g, a.len * 3 + 1, none⟩) hg).trans p1
      have q2 := (hBr.cell (p := ⟨g, a.len * 3 + 2, none⟩) hg).trans p2
      have HC := hide (fun (w' : World) (hw' : Below w.heap.size w w') => F.all_at hI y sy P w' ⟨gy, ly, oy⟩ (by omega) (hTy.below hw'))
      obtain ⟨yad, yc, rfl⟩ := hTy.form
      have HSn := hide (hk.trans (F.app_snoc a ky bb y))
      have HDl : Hid ((a.app (.cons y ky .nil)).len = a.len + 1) := hide (by rw [F.app_len]; rfl)
      have HDn : Hid (dv y ky = none → R = none) := hide (fun hv => by
        rw [HR.out]; unfold dv; rw [hk, dvF_app, HDa.out]; simp only; rw [dvF_cons, hv]; rfl)
      have HDs : Hid (∀ p, dv y ky = some p → dvF (a.app (.cons y ky .nil)) = some (a'.app (.cons p.1 p.2 .nil))) := hide (fun p hv => by
        rw [dvF_app, HDa.out]; simp only; rw [dvF_cons, hv]; rfl)
      have HP6 := hide (fun p hv => dv_600 ⟨gy, ly, oy⟩ (by omega) (p := p) hv)
      obtain ⟨CM, hCM⟩ : ∃ CM, CM = dv y ky := ⟨_, rfl⟩
      rw [← hCM] at HC HDn HDs HP6
      obtain ⟨al, hal⟩ : ∃ al, al = a.len := ⟨_, rfl⟩
      obtain ⟨kn, hkn⟩ : ∃ kn, kn = ky.len := ⟨_, rfl⟩
      rw [← hal] at hlt' hd0 q0 q1 q2 HDl HO1 HOw HHo HKs ha4 hkl2 ⊢
      rw [← hkn] at HC q2
      have hal3 : al ≤ 3 := by omega
      have hBa : ∀ o : Obj, Below w.heap.size w (wr.alloc o) := fun o => hBr.alloc hBr.size o
      clear p0 p1 p2 hTy hI hk hfk hO gy ly oy orr hal hkn hCM hkl2
      go_wp2_with fail
      refine Calls.mono (HC.out _ (hBa _)) ?_
      rintro e w2 ⟨hto, hb2⟩
      have hsa : wr.heap.size + 1 ≤ w2.heap.size := by have := hb2.size; simpa using this
      have hb2' : Below wr.heap.size wr w2 := ((Below.refl _ wr).alloc (Nat.le_refl _) _).trans (hb2.mono (by simp))
      have hB2 : Below w.heap.size w w2 := hBr.trans (hb2'.mono hBr.size)
      have HRB : Hid (∀ o : Obj, (w2.alloc o).heap[w.heap.size + 1]? = some (.cells #[.int .i64 0, .int .i64 0, .slice none 0 0] 55 (0, 0))) := hide (fun o => (heap_alloc_old _ _ (by omega)).trans ((hb2'.block _ (by omega)).trans HR1.out))
      have HOB : Hid (∀ o : Obj, (w2.alloc o).heap[w.heap.size + 1 + 1]? = some (.cells #[.int .i64 xk, .int .i64 xn, .slice oad al oc] 55 (0, 0))) := hide (fun o => (heap_alloc_old _ _ (by omega)).trans ((hb2'.block _ (by omega)).trans HO1.out))
      clear q0 q1 q2 HC hb2
      cases CM with
      | none =>
        obtain rfl : e = .returned (.tuple #[.agg #[.int .i64 0, .int .i64 0, .slice none 0 0], .bool false]) := hto
        have hRn := HDn.out rfl
        subst hRn
        have A0 : ∀ o : Obj, (w2.alloc o).cell? ⟨w.heap.size + 1, 0, none⟩ = some (.int .i64 0) := fun o => (cell_of_blk (HRB.out o) 0).trans rfl
        have A1 : ∀ o : Obj, (w2.alloc o).cell? ⟨w.heap.size + 1, 1, none⟩ = some (.int .i64 0) := fun o => (cell_of_blk (HRB.out o) 1).trans rfl
        have A2 : ∀ o : Obj, (w2.alloc o).cell? ⟨w.heap.size + 1, 2, none⟩ = some (.slice none 0 0) := fun o => (cell_of_blk (HRB.out o) 2).trans rfl
        have FA : ∀ (o : Obj) (i : Nat), (w2.alloc o).frozen? ⟨w.heap.size + 1, i, none⟩ = false := fun o i => unfrozen_of_blk (HRB.out o) i
        go_wp2_with fail
        have hr9 := blk_setCell (i := 2) (blk_setCell (i := 1) (blk_setCell (i := 0) (HRB.out (.cells #[.int .i64 0, .int .i64 0, .slice none 0 0] 55)) (.int .i64 0)) (.int .i64 0)) (.slice none 0 0)
        have b0 := (cell_of_blk hr9 0).trans rfl
        have b1 := (cell_of_blk hr9 1).trans rfl
        have b2 := (cell_of_blk hr9 2).trans rfl
        have hB9 := (((hB2.alloc hB2.size (.cells #[.int .i64 0, .int .i64 0, .slice none 0 0] 55)).setCell (p := ⟨w.heap.size + 1, 0, none⟩) (by show w.heap.size ≤ w.heap.size + 1; omega) (.int .i64 0)).setCell (p := ⟨w.heap.size + 1, 1, none⟩) (by show w.heap.size ≤ w.heap.size + 1; omega) (.int .i64 0)).setCell (p := ⟨w.heap.size + 1, 2, none⟩) (by show w.heap.size ≤ w.heap.size + 1; omega) (.slice none 0 0)
        exact bodyPost_ret (v := .tuple #[.agg #[.int .i64 0, .int .i64 0, .slice none 0 0], .bool false]) (by simp [results, Try.results41, go_sem, b0, b1, b2]) rfl ⟨rfl, hB9⟩
      | some p =>
        obtain ⟨s2, rfl, hK2⟩ : ∃ s', e = .returned (.tuple #[.agg #[.int .i64 p.1.k, .int .i64 p.1.n, s'], .bool true]) ∧ KidT w2 _ p.2 s' := hto
        obtain ⟨pad, pc2, hpf⟩ := hK2.form
        subst hpf
        have hDs := HDs.out p rfl
        have hp6 := HP6.out p rfl
        obtain ⟨PN, hPN⟩ : ∃ PN, PN = p.2.len := ⟨_, rfl⟩
        have HK2 := hide hK2
        rw [← hPN] at HK2 ⊢
        have HDs2 := hide hDs
        have O2 : ∀ o : Obj, (w2.alloc o).cell? ⟨w.heap.size + 1 + 1, 2, none⟩ = some (.slice oad al oc) := fun o => (cell_of_blk (HOB.out o) 2).trans rfl
        clear hK2 hPN hDs HDn HDs HP6 HRB
        have hown2 : w2.ownsRow w0.heap.size 55 3 (.slice oad al oc) al cs := tOwn_keep HOw.out (fun k _ hk => hb2'.block k hk)
        have HOw2 := hide hown2
        clear hown2
        obtain ⟨w5, hw5⟩ : ∃ w5, w5 = w2.alloc (.cells #[.int .i64 p.1.k, .int .i64 p.1.n, .slice pad PN pc2] 55) := ⟨_, rfl⟩
        have HW5 := hide hw5
        clear hw5
        go_wp2_with (at_builtin; refine wpList_append_own_at _ rfl _ _ 53 rfl w0.heap.size 55 i0 (.agg #[.int .i64 0, .int .i64 0, .slice none 0 0]) 3 40 Try.underlying53 Hi.out hz0 hz1 hz2 rfl (by decide) _ al cs rfl ((HOw2.out.alloc _).alloc _) ⟨w2.heap.size + 1, 0, none⟩ 1 1 (tC p.1 (.slice pad PN pc2)) rfl rfl ?c1 ?c2 ?c3 ?c4 ?c5 ?_)
        case c1 => exact tC_cells (by have := heap_alloc_new (w2.alloc (.cells #[.int .i64 p.1.k, .int .i64 p.1.n, .slice pad PN pc2] 55)) (.cells #[.int .i64 p.1.k, .int .i64 p.1.n, .slice pad PN pc2] 55); simpa using this)
        case c2 => exact tC_one _ _ rfl
        case c3 => unfold maxLen; omega
        case c4 => omega
        case c5 => simp; omega
        intro v' w6 hown6 hgr6 _ hat6
        obtain ⟨g6, cap6, rfl, -, -⟩ := tOwn_some hown6 (by omega)
        have hown7 : w6.ownsRow w0.heap.size 55 3 (.slice (some ⟨g6, 0, none⟩) (al + 1) cap6) (al + 1) (cs ++ tC p.1 (.slice pad PN pc2)) := by rw [hsz0]; exact hown6
        have hNo : ∀ q, (Value.slice oad al oc).ownBlock = some q → w0.heap.size ≤ q ∧ q < wr.heap.size := HOw.out.lt
        rw [← HW5.out] at hgr6
        have hb5 : Below wr.heap.size wr w5 := by rw [HW5.out]; exact hb2'.alloc (by omega) _
        have hb25 : Below w2.heap.size w2 w5 := by rw [HW5.out]; exact (Below.refl _ _).alloc (Nat.le_refl _) _
        have hs5 := hb25.size
        have hO6 : w6.heap[w.heap.size + 1 + 1]? = some (.cells #[.int .i64 xk, .int .i64 xn, .slice oad al oc] 55 (0, 0)) := by
          rw [hgr6.block _ (by simp; omega) (fun e => by have := (hNo _ e.symm).1; omega), heap_alloc_old _ _ (by omega), hb5.block _ (by omega)]; exact HO1.out
        have f6 := (cell_of_blk hO6 2).trans rfl
        have ff6 := unfrozen_of_blk hO6 2
        have hrs := hide (row_step (F1 := a') hb5 HKs.out ((HK2.out.below hb25).weak (fun q h1 h2 => by have h3 : (wr.alloc (.cells #[.int .i64 y.k, .int .i64 y.n, .slice yad kn yc] 55)).heap.size ≤ q := h1; simp at h3; omega)) hown7 hgr6 (hat6.imp (fun h => h.symm) (fun h => by rw [HW5.out]; simp only [Value.ownBlock, Option.some.injEq] at h; simp; omega)) hNo (show w.heap.size + 1 + 1 < w0.heap.size by omega) hszr HO1.out)
        clear hown6 hown7 hgr6 hat6 hO6 HK2 HOw2 O2 HOB
        go_wp2_with fail
        obtain ⟨r1, r2, r3, r4, r5, r6, r7⟩ := hrs.out
        refine ⟨⟨a.app (.cons y ky .nil), bb, a'.app (.cons p.1 p.2 .nil), _, cs ++ tC p.1 (.slice pad PN pc2), HSn.out, by rw [HDl.out]; go_num, HDs2.out, ?_, hBr.trans (r7.mono (by omega)), by omega, (r4 _ (by omega) (by omega)).trans HT1.out, (r4 _ (by omega) (by omega)).trans HR1.out, r5, r1, by rw [HDl.out]; exact r2, by rw [HDl.out]; exact r3⟩, by simp [intOf]; omega⟩
        rw [F.app_flat, HDl.out]; simp [F.flat]; omega
end Go.Proofs.Ytjmgnljjeogdlaa.W

/-
  The program's DevelopTerm. Conditions: at most 1048576 cells.
-/
namespace Go.Proofs.Ytjmgnljjeogdlaa.W
open Go.ChangeShapes Go.WideShapes Go.ChangeAt Go.RowKit
set_option linter.unusedVariables false

/-- The cells of a term developed. -/
def dvR (l : List Cc) : Option (List Cc) := match treeT l with | some (.cons x k _) => (dv x k).map (fun p => p.1 :: p.2.flat) | _ => none

set_option maxRecDepth 20000 in
set_option maxHeartbeats 2000000 in
theorem implDevelop_good (ad : Option Addr) (c : Nat) (l : List Cc) (x : Cc) (k : F) (w : World) (hl : l.length ≤ 1048576) (hc : l.length ≤ c) (ht : treeT l = some (.cons x k .nil)) (h : CRow w ad l) :
    Calls Try.prog 15 #[.slice ad l.length c] w fun e w' => RS w (dvR l) e w' := by
  have hr : dvR l = (dv x k).map (fun p => p.1 :: p.2.flat) := by unfold dvR; rw [ht]
  have hg : goodT l = true := by unfold goodT; rw [ht]; rfl
  have HC := hide (implGoodT_any ad c l w hl h)
  rw [hg] at HC
  obtain ⟨e1, ho, -, e4, -⟩ := treeT_flat ht
  obtain ⟨g1, l1, o1, -⟩ := ho
  have hok : okT x k := ⟨g1, l1, o1⟩
  have e5 : l = x :: (k.flat ++ []) := by rw [e1]; simp [F.flat]
  obtain ⟨b, o, rfl, hrow⟩ : ∃ b o, ad = some ⟨b, o, none⟩ ∧ CRowAt w b o l := by
    rcases h with h0 | h0
    · rw [e5] at h0; cases h0
    · exact h0
  have e6 : (k.flat ++ []).length + 1 = l.length := by rw [e5]; simp
  have HDv := hide (fun (w' : World) (hb : Below w.heap.size w w') => developedAhead_any k x [] b o c w' hok (by omega) (by omega) (by rw [← e5]; exact hrow.below hb))
  rw [e6] at HDv
  rw [hr]
  have hk6 : k.flat.length + 1 ≤ 600 := by rw [e5] at e4; simpa using e4
  have HP6 := hide (fun p hv => dv_600 hok hk6 (p := p) hv)
  obtain ⟨D, hD⟩ : ∃ D, D = dv x k := ⟨_, rfl⟩
  rw [← hD] at HDv HP6 ⊢
  clear ht hr hg h e1 e4 g1 l1 o1 hok e5 e6 hrow hD
  go_enter Try.func15, Try.ntmps15
  go_wp2_with fail
  refine Calls.mono HC.out ?_
  rintro e w1 ⟨rfl, hb1⟩
  clear HC
  go_wp2_with fail
  refine Calls.mono (HDv.out _ hb1) ?_
  rintro e w2 ⟨hdo, hb2⟩
  have hB2 : Below w.heap.size w w2 := hb1.trans (hb2.mono hb1.size)
  clear HDv
  cases D with
  | none =>
    obtain ⟨a1, n1, c1, a2, n2, c2, rfl⟩ := hdo
    go_wp2_with fail
    exact bodyPost_ret (v := .tuple #[.slice none 0 0, .bool false]) (by simp [results, Try.results15, go_sem]) rfl ⟨_, rfl, World.ownsRow_nil _ _ _ _, hB2⟩
  | some p =>
    obtain ⟨s', q', rfl, -, ho'⟩ := hdo
    have hp6 := HP6.out p rfl
    have HO2 := hide (iOwn_lower ho' hb1.size)
    obtain ⟨ad2, c2, rfl, hc2, hrow2⟩ := cOwn_row ho'
    have HG2 := hide (implGoodT_any ad2 c2 (p.1 :: p.2.flat) w2 (by simp; omega) hrow2)
    obtain ⟨PN, hPN⟩ : ∃ PN, PN = (p.1 :: p.2.flat).length := ⟨_, rfl⟩
    rw [← hPN] at HG2 HO2 ⊢
    have HPN := hide hPN
    clear ho' hc2 hrow2 hPN HP6
    go_wp2_with fail
    refine Calls.mono HG2.out ?_
    rintro e w3 ⟨rfl, hb3⟩
    have hB3 : Below w.heap.size w w3 := hB2.trans (hb3.mono hB2.size)
    have HO3 := hide (tOwn_keep HO2.out (fun k _ hk => hb3.block k hk))
    clear HG2 HO2
    cases hgd : goodT (p.1 :: p.2.flat) with
    | false =>
      go_wp2_with fail
      refine bodyPost_ret (v := .tuple #[.slice none 0 0, .bool false]) (by simp [results, Try.results15, go_sem]) rfl ⟨.slice none 0 0, by simp [rB, hgd], ?_, hB3⟩
      simp only [Option.map_some, rL, gd, hgd]
      exact World.ownsRow_nil _ _ _ _
    | true =>
      go_wp2_with fail
      refine bodyPost_ret (v := .tuple #[.slice ad2 PN c2, .bool true]) (by simp [results, Try.results15, go_sem]) rfl ⟨.slice ad2 PN c2, by simp [rB, hgd], ?_, hB3⟩
      simp only [Option.map_some, rL, gd, hgd, if_true]
      rw [← HPN.out]
      exact HO3.out

set_option maxHeartbeats 1000000 in
theorem implDevelop_any (ad : Option Addr) (c : Nat) (l : List Cc) (w : World) (hl : l.length ≤ 1048576) (hc : l.length ≤ c) (h : CRow w ad l) :
    Calls Try.prog 15 #[.slice ad l.length c] w fun e w' => RS w (dvR l) e w' := by
  cases ht : treeT l with
  | some t =>
    obtain ⟨x, k, rfl⟩ := F.len_1 (treeT_flat ht).2.2.1
    exact implDevelop_good ad c l x k w hl hc ht h
  | none =>
    have hr : dvR l = none := by unfold dvR; rw [ht]
    rw [hr]
    have HC := hide (implGoodT_any ad c l w hl h)
    rw [show goodT l = false by unfold goodT; rw [ht]; rfl] at HC
    clear h ht hr
    go_enter Try.func15, Try.ntmps15
    go_wp2_with fail
    refine Calls.mono HC.out ?_
    rintro e w1 ⟨rfl, hb1⟩
    go_wp2_with fail
    exact bodyPost_ret (v := .tuple #[.slice none 0 0, .bool false]) (by simp [results, Try.results15, go_sem]) rfl ⟨_, rfl, World.ownsRow_nil _ _ _ _, hb1⟩
end Go.Proofs.Ytjmgnljjeogdlaa.W

/-
  The specification's DevelopTerm. Conditions: at most 1048576 cells.
-/
namespace Go.Proofs.Ytjmgnljjeogdlaa.W
open Go.ChangeShapes Go.WideShapes Go.ChangeAt Go.RowKit
set_option linter.unusedVariables false

set_option maxRecDepth 20000 in
set_option maxHeartbeats 4000000 in
theorem specDevelop_any (ad : Option Addr) (c : Nat) (l : List Cc) (w : World) (hl : l.length ≤ 1048576) (h : CRow w ad l) :
    Calls Try.prog 16 #[.slice ad l.length c] w fun e w' => RS w (dvR l) e w' := by
  have HC := hide (l3Tree_any ad c l w hl h)
  cases ht : treeT l with
  | none =>
    have hr : dvR l = none := by unfold dvR; rw [ht]
    rw [hr]
    rw [ht] at HC
    clear h ht hr
    go_enter Try.func16, Try.ntmps16
    go_wp2_with fail
    refine Calls.mono HC.out ?_
    rintro e w1 ⟨hb1, k, n, sad, sn, sc, rfl⟩
    clear HC
    go_wp2_with fail
    exact bodyPost_ret (v := .tuple #[.slice none 0 0, .bool false]) (by simp [results, Try.results16, go_sem]) rfl ⟨_, rfl, World.ownsRow_nil _ _ _ _, hb1.alloc hb1.size _⟩
  | some t =>
    obtain ⟨x, k, rfl⟩ := F.len_1 (treeT_flat ht).2.2.1
    have hr : dvR l = (dv x k).map (fun p => p.1 :: p.2.flat) := by unfold dvR; rw [ht]
    rw [ht] at HC
    obtain ⟨e1, ho, -, e4, -⟩ := treeT_flat ht
    obtain ⟨g1, l1, o1, -⟩ := ho
    have hok : okT x k := ⟨g1, l1, o1⟩
    have hk6 : k.flat.length + 1 ≤ 600 := by rw [e1] at e4; simpa [F.flat] using e4
    rw [hr]
    have HP6 := hide (fun p hv => dv_600 hok hk6 (p := p) hv)
    have HDv := hide (fun (s : Value) (P : Nat → Prop) (w' : World) (hT : KidT w' P k s) => l4Develop_any k x s P w' hok hk6 hT)
    obtain ⟨D, hD⟩ : ∃ D, D = dv x k := ⟨_, rfl⟩
    rw [← hD] at HDv HP6 ⊢
    clear ht hr h e1 e4 g1 l1 o1 hok hD
    go_enter Try.func16, Try.ntmps16
    go_wp2_with fail
    refine Calls.mono HC.out ?_
    rintro e w1 ⟨hb1, x', k', s, hxe, rfl, hT⟩
    simp only [F.cons.injEq, and_true] at hxe
    obtain ⟨rfl, rfl⟩ := hxe
    obtain ⟨sad, sc, rfl⟩ := hT.form
    have HS1 := hide (fun o : Obj => HDv.out _ _ (w1.alloc o) (hT.below ((Below.refl _ _).alloc (Nat.le_refl _) o)))
    obtain ⟨KN, hKN⟩ : ∃ KN, KN = k.len := ⟨_, rfl⟩
    rw [← hKN] at HS1 ⊢
    clear HC hT hKN HDv
    go_wp2_with fail
    refine Calls.mono (HS1.out _) ?_
    rintro e w2 ⟨hto, hb2⟩
    have hB2 : Below w.heap.size w w2 := (hb1.alloc hb1.size _).trans (hb2.mono (by have := hb1.size; simp; omega))
    clear HS1 hb2
    cases D with
    | none =>
      obtain rfl : e = .returned (.tuple #[.agg #[.int .i64 0, .int .i64 0, .slice none 0 0], .bool false]) := hto
      go_wp2_with fail
      exact bodyPost_ret (v := .tuple #[.slice none 0 0, .bool false]) (by simp [results, Try.results16, go_sem]) rfl ⟨_, rfl, World.ownsRow_nil _ _ _ _, hB2.alloc hB2.size _⟩
    | some p =>
      obtain ⟨s2, rfl, hK2⟩ : ∃ s', e = .returned (.tuple #[.agg #[.int .i64 p.1.k, .int .i64 p.1.n, s'], .bool true]) ∧ KidT w2 _ p.2 s' := hto
      have hp6 := HP6.out p rfl
      obtain ⟨pad, pc, hpf⟩ := hK2.form
      subst hpf
      have HTe := hide (fun o : Obj => l3Tell_any p.1 p.2 (.slice pad p.2.len pc) _ (w2.alloc o) (by omega) (hK2.below ((Below.refl _ _).alloc (Nat.le_refl _) o)))
      obtain ⟨PN, hPN⟩ : ∃ PN, PN = p.2.len := ⟨_, rfl⟩
      rw [← hPN] at HTe ⊢
      clear hK2 hPN HP6
      go_wp2_with fail
      refine Calls.mono (HTe.out _) ?_
      rintro e w3 ⟨s3, rfl, ho3, hb3⟩
      have hB3 : Below w.heap.size w w3 := (hB2.alloc hB2.size _).trans (hb3.mono (by have := hB2.size; simp; omega))
      have HO3 := hide (iOwn_lower ho3 (show w.heap.size ≤ _ by have := hB2.size; simp; omega))
      obtain ⟨fa, fc, rfl⟩ := iOwn_form ho3
      obtain ⟨GN, hGN⟩ : ∃ GN, GN = (gd (p.1 :: p.2.flat)).length := ⟨_, rfl⟩
      rw [← hGN] at HO3 ⊢
      have HGN := hide hGN
      obtain ⟨GB, hGB⟩ : ∃ GB, GB = goodT (p.1 :: p.2.flat) := ⟨_, rfl⟩
      rw [← hGB]
      have HGB := hide hGB
      clear ho3 hb3 hGN hGB HTe
      go_wp2_with fail
      refine bodyPost_ret (v := .tuple #[.slice fa GN fc, .bool GB]) (by simp [results, Try.results16, go_sem]) rfl ⟨.slice fa GN fc, by rw [HGB.out]; rfl, ?_, hB3⟩
      show w3.ownsRow _ _ 2 _ (gd (p.1 :: p.2.flat)).length (cv (gd (p.1 :: p.2.flat)))
      rw [← HGN.out]
      exact HO3.out
end Go.Proofs.Ytjmgnljjeogdlaa.W

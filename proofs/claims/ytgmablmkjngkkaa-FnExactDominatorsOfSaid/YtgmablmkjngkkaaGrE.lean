/-
  l10Dominators: the dominators, by the specification. Conditions: a good graph.
-/
import Derived.Test.YtgmablmkjngkkaaGrD
import Derived.Test.YtgmablmkjngkkaaGrS
namespace Go.Proofs.Ytgmablmkjngkkaa.W
open Go.ChangeShapes Go.WideShapes Go.ChangeAt Go.RowKit Go.Joins
set_option linter.unusedVariables false
set_option maxRecDepth 20000

/-- Rows in a block of its own. -/
def QN (w : World) (v : Value) (Ls : List (List Int)) : Prop :=
  ∃ S cur, v = .slice (some ⟨S, 0, none⟩) Ls.length Ls.length ∧ w.heap[S]? = some (.cells cur 35 (0, 0)) ∧ cur.size = Ls.length ∧ ∀ q (h : q < Ls.length), ∃ x, cur[q]? = some x ∧ NV w x Ls[q]
/-- The rows of block S. -/
def QS (w : World) (S : Nat) (Ls : List (List Int)) : Prop :=
  ∃ cur, w.heap[S]? = some (.cells cur 35 (0, 0)) ∧ cur.size = Ls.length ∧ ∀ q (h : q < Ls.length), ∃ x, cur[q]? = some x ∧ NV w x Ls[q]
theorem QS.lt {w : World} {S : Nat} {Ls : List (List Int)} (h : QS w S Ls) : S < w.heap.size := by
  obtain ⟨cur, h1, -⟩ := h
  exact (Array.getElem?_eq_some_iff.1 h1).1
theorem QS.below {w w' : World} {S : Nat} {Ls : List (List Int)} (h : QS w S Ls) (hb : Below w.heap.size w w') : QS w' S Ls := by
  obtain ⟨cur, h1, h2, h3⟩ := h
  refine ⟨cur, (hb.block S (Array.getElem?_eq_some_iff.1 h1).1).trans h1, h2, fun q hq => ?_⟩
  obtain ⟨x, h4, h5⟩ := h3 q hq
  exact ⟨x, h4, h5.below hb⟩
theorem QS.at {w : World} {S : Nat} {Ls : List (List Int)} (h : QS w S Ls) {q : Nat} (hq : q < Ls.length) : ∃ x, w.cell? ⟨S, q, none⟩ = some x ∧ NV w x Ls[q] := by
  obtain ⟨cur, h1, h2, h3⟩ := h
  obtain ⟨x, h4, h5⟩ := h3 q hq
  exact ⟨x, (cell_of_blk h1 q).trans h4, h5⟩
theorem QS.f {w : World} {S : Nat} {Ls : List (List Int)} (h : QS w S Ls) : ∀ i, w.frozen? ⟨S, i, none⟩ = false := by
  obtain ⟨cur, h1, h2, h3⟩ := h
  exact fun i => unfrozen_of_blk h1 i
/-- A row of numbers does not lie in a block of slices. -/
theorem NV.setS {w : World} {v : Value} {l : List Int} (h : NV w v l) {S : Nat} {Ls : List (List Int)} (hS : QS w S Ls) (i : Nat) (y : Value) : NV (w.setCell ⟨S, i, none⟩ y) v l := by
  rcases h with h | ⟨g, o, c, h1, h2, h3, h4⟩
  · exact .inl h
  · refine .inr ⟨g, o, c, h1, h2, by simpa [World.setCell] using h3, fun k hk => ?_⟩
    have hne : g ≠ S := by
      rintro rfl
      obtain ⟨cur, c1, c2, c3⟩ := hS
      have := h4 k hk
      rw [cell_of_blk c1] at this
      have hlt := (Array.getElem?_eq_some_iff.1 this).1
      obtain ⟨x, x1, x2⟩ := c3 (o + k) (by omega)
      rw [this] at x1
      obtain ⟨a, b, e, -⟩ := x2.form
      simp only [Option.some.injEq] at x1
      rw [e] at x1
      cases x1
    exact (World.cell?_of_block (a := ⟨g, o + k, none⟩) (Below.heap_setCell _ _ _ _ hne)).trans (h4 k hk)
theorem QS.set {w : World} {S : Nat} {Ls : List (List Int)} (h : QS w S Ls) {i : Nat} (hi : i < Ls.length) {y : Value} {l : List Int} (hy : NV w y l) : QS (w.setCell ⟨S, i, none⟩ y) S (Ls.set i l) := by
  have h0 := h
  obtain ⟨cur, h1, h2, h3⟩ := h
  refine ⟨_, blk_setCell h1 _, by simp [h2], fun q hq => ?_⟩
  rw [List.length_set] at hq
  rw [Array.getElem?_setIfInBounds]
  by_cases e : i = q
  · subst e
    refine ⟨y, by rw [if_pos rfl, if_pos (by omega)], ?_⟩
    rw [List.getElem_set_self]
    exact hy.setS h0 _ _
  · obtain ⟨x, x1, x2⟩ := h3 q hq
    refine ⟨x, by rw [if_neg e]; exact x1, ?_⟩
    rw [List.getElem_set_ne e]
    exact x2.setS h0 _ _
theorem QS.new (w : World) (n : Nat) : QS (w.alloc (.cells (madeCells #[.slice none 0 0] n) 35)) w.heap.size (List.replicate n []) := by
  refine ⟨_, heap_alloc_new w _, by simp [madeCells], fun q hq => ?_⟩
  have hq' : q < n := by simpa using hq
  refine ⟨.slice none 0 0, ?_, .inl ⟨rfl, by simp⟩⟩
  simp [madeCells, hq', Nat.mod_one]

/-- The row of block k, when the first i of R have been looked at. -/
def DS (L : List (List Int)) (R : List Int) (i k : Nat) (o : List Int) : Prop := Ris o ∧ ∀ x : Int, x ∈ o ↔ ∃ q, ∃ h : q < R.length, q < i ∧ x = R[q] ∧ Dom L k x.toNat
theorem DS.len {L : List (List Int)} {R : List Int} {i k : Nat} {o : List Int} (hg : GG L) (hR : R = rl L (-1) 0) (h : DS L R i k o) : o.length ≤ 12 := by
  have := rise_len o 0 12 h.1 (by omega) (fun x hx => by
    obtain ⟨q, hq, -, e, -⟩ := (h.2 x).1 hx
    have hm : x ∈ rl L (-1) 0 := by rw [← hR, e]; exact List.getElem_mem hq
    obtain ⟨n, rfl, hn, -⟩ := lst_mem.1 hm
    omega)
  omega
theorem DS.zero (L : List (List Int)) (R : List Int) (k : Nat) : DS L R 0 k [] := ⟨by simp, fun x => by
  constructor
  · intro h; simp at h
  · rintro ⟨q, h, h1, -⟩; omega⟩
theorem DS.skip {L : List (List Int)} {R : List Int} {i k : Nat} {o : List Int} (h : DS L R i k o) (hi : ∀ hl : i < R.length, ¬ Dom L k (R[i].toNat)) : DS L R (i + 1) k o := ⟨h.1, fun x => by
  rw [h.2]
  constructor
  · rintro ⟨q, hq, h1, h2⟩; exact ⟨q, hq, by omega, h2⟩
  · rintro ⟨q, hq, h1, h2, h3⟩
    by_cases e : q = i
    · subst e; exact absurd (h2 ▸ h3) (hi hq)
    · exact ⟨q, hq, by omega, h2, h3⟩⟩
theorem DS.put {L : List (List Int)} {R : List Int} {i k : Nat} {o : List Int} (h : DS L R i k o) (hl : i < R.length) (hd : Dom L k (R[i].toNat)) : DS L R (i + 1) k (putL o R[i]) := ⟨putL_ris _ _ h.1, fun x => by
  rw [putL_mem, h.2]
  constructor
  · rintro (e | ⟨q, hq, h1, h2⟩)
    · exact ⟨i, hl, by omega, e, by rw [e]; exact hd⟩
    · exact ⟨q, hq, by omega, h2⟩
  · rintro ⟨q, hq, h1, h2, h3⟩
    by_cases e : q = i
    · subst e; exact .inl h2
    · exact .inr ⟨q, hq, by omega, h2, h3⟩⟩
theorem DS.done {L : List (List Int)} {R : List Int} {k : Nat} {o : List Int} (hg : GG L) (hR : R = rl L (-1) 0) (h : DS L R R.length k o) : o = dl L k := by
  refine rise_ext _ _ h.1 (lst_ris _ _) (fun x => ?_)
  rw [h.2]
  constructor
  · rintro ⟨q, hq, -, e, hd⟩
    have hm : x ∈ rl L (-1) 0 := by rw [← hR, e]; exact List.getElem_mem hq
    obtain ⟨n, rfl, hn, -⟩ := lst_mem.1 hm
    rw [dl_mem hg]
    simpa using hd
  · intro hx
    obtain ⟨n, rfl, hn, hd⟩ := lst_mem.1 hx
    have hd := dm_iff.1 hd
    have hm : (n : Int) ∈ R := by rw [hR]; exact lst_mem.2 ⟨n, rfl, hn, rc_iff.2 hd.reached⟩
    obtain ⟨q, hq, e⟩ := List.getElem_of_mem hm
    exact ⟨q, hq, hq, e.symm, by simpa using hd⟩
theorem ris_inj {R : List Int} (h : Ris R) {p q : Nat} (hp : p < R.length) (hq : q < R.length) (e : R[p] = R[q]) : p = q := by
  rcases Nat.lt_trichotomy p q with hh | hh | hh
  · have := List.pairwise_iff_getElem.1 h p q hp hq hh; omega
  · exact hh
  · have := List.pairwise_iff_getElem.1 h q p hq hp hh; omega

/-- The dominators of each block. -/
noncomputable def dls (L : List (List Int)) : List (List Int) := (List.range L.length).map (dl L)
theorem dls_len (L : List (List Int)) : (dls L).length = L.length := by simp [dls]
theorem dls_at (L : List (List Int)) {k : Nat} (h : k < (dls L).length) : (dls L)[k] = dl L k := by simp [dls]

set_option maxHeartbeats 8000000 in
theorem l10Dom_any (v : Value) (L : List (List Int)) (w : World) (h : GRow w v L) (hg : GG L) :
    Calls Try.prog 29 #[v] w fun e w' => ∃ S, e = .returned (.slice (some ⟨S, 0, none⟩) L.length L.length) ∧ w.heap.size ≤ S ∧ QS w' S (dls L) ∧ Below w.heap.size w w' := by
  obtain ⟨ad, c, rfl, hR, hs, hlc⟩ := h
  have hB0 : Below w.heap.size w (w.alloc (.cells #[.slice ad L.length c] 28)) := (Below.refl _ _).alloc (Nat.le_refl _) _
  have HX := hide (Bx.new w #[.slice ad L.length c] 28)
  have HV : Hid (∀ w', Below w.heap.size w w' → GRow w' (.agg #[.slice ad L.length c]) L) := hide (fun w' hb => ⟨ad, c, rfl, hR.below hb, hs, hlc⟩)
  have HG := hide hg
  have hl12 := hg.2.1
  have hmk := mk_ISS L.length (by omega)
  clear hR hs hlc hg
  go_enter Try.func29, Try.ntmps29
  go_wp2_with fail
  refine Calls.mono (l10Reach_any _ L (-1) _ (HV.out _ hB0) HG.out) ?_
  rintro e W1 ⟨v3, rfl, hN3, hb⟩
  have hB1 := hB0.trans (hb.mono hB0.size)
  have HX1 := hide (HX.out.below hb HX.out.lt)
  clear hb hB0 HX
  obtain ⟨R, hRR⟩ : ∃ R, R = rl L (-1) 0 := ⟨_, rfl⟩
  rw [← hRR] at hN3
  have hR12 : R.length ≤ 12 := by rw [hRR]; exact lst_len _ _
  have HRR := hide hRR
  have HRi : Hid (Ris R) := hide (by rw [hRR]; exact lst_ris _ _)
  have HRm : Hid (∀ q (h : q < R.length), ∃ k : Nat, R[q] = (k : Int) ∧ k < L.length ∧ Rc L (-1) 0 k) := hide (fun q h => by
    have hm : R[q] ∈ rl L (-1) 0 := by rw [← hRR]; exact List.getElem_mem h
    obtain ⟨k, e, -, hk⟩ := lst_mem.1 hm
    have := rc_iff.1 hk
    exact ⟨k, e, this.lt HG.out HG.out.1, this⟩)
  have HRc : Hid (∀ k : Nat, Rc L (-1) 0 k → ∃ q, ∃ h : q < R.length, R[q] = (k : Int)) := hide (fun k hk => by
    have hm : (k : Int) ∈ R := by
      rw [hRR]
      have := hk.lt HG.out HG.out.1
      exact lst_mem.2 ⟨k, rfl, by omega, rc_iff.2 hk⟩
    obtain ⟨q, hq, e⟩ := List.getElem_of_mem hm
    exact ⟨q, hq, e⟩)
  clear hRR
  obtain ⟨a3, c3, rfl, -⟩ := hN3.form
  have HN3 := hide hN3
  have cx := HX1.out.c
  have lx := HX1.out.lt
  clear hN3
  go_wp2_with fail
  clear cx hmk
  obtain ⟨S, hS⟩ : ∃ S, S = W1.heap.size := ⟨_, rfl⟩
  have HQ0 := hide (QS.new W1 L.length)
  have hB2 : Below W1.heap.size W1 (W1.alloc (.cells (madeCells #[.slice none 0 0] L.length) 35)) := (Below.refl _ _).alloc (Nat.le_refl _) _
  rw [← hS] at HQ0 ⊢
  have hSw : w.heap.size ≤ S := by rw [hS]; exact hB1.size
  have hSW : S = W1.heap.size := hS
  have HSW := hide hSW
  clear hS hSW
  go_loopw [18] (fun i w' => ∃ (j : Nat) (Ls : List (List Int)), j ≤ R.length ∧ i = .int .i64 j ∧ QS w' S Ls ∧ Ls.length = L.length ∧ (∀ k (h : k < Ls.length), DS L R j k Ls[k]) ∧ Below W1.heap.size W1 w') (fun i _ => R.length - (intOf i).toNat)
  case atStart => exact ⟨0, _, by omega, rfl, HQ0.out, by simp, fun k h => by simp only [List.getElem_replicate]; exact DS.zero L R k, hB2⟩
  case round =>
    clear HQ0 hB2
    obtain ⟨j, Ls, hj, rfl, hQ, hLl, hD, hB⟩ := hrel
    have HQ := hide hQ
    have HD := hide hD
    have HB := hide hB
    have HLl := hide hLl
    clear hQ hD hB hLl
    by_cases hlt : j < R.length
    · have hlt' : (j : Int) < (R.length : Int) := by omega
      obtain ⟨D, hD, hDl, hDr⟩ := HRm.out j hlt
      obtain ⟨b3, o3, rfl, p3⟩ := NV.at HN3.out HB.out hlt
      rw [hD] at p3
      have HDd := hide hD
      have HDr := hide hDr
      clear hD hDr
      have X := HX1.out.below HB.out HX1.out.lt
      have cx := X.c
      have lx2 := X.lt
      have HBw := hide (hB1.trans (HB.out.mono hB1.size))
      go_wp2_with fail
      refine Calls.mono (l10Reach_any _ L D _ (HV.out _ HBw.out) HG.out) ?_
      rintro e w2 ⟨v7, rfl, hN7, hb⟩
      have HN7 := hide hN7
      have HB7 := hide (HB.out.trans (hb.mono HB.out.size))
      have HQ7 := hide (HQ.out.below hb)
      obtain ⟨a7, c7, rfl, -⟩ := hN7.form
      clear hN7 hb HQ HB HBw cx lx2 X p3
      obtain ⟨WL, hWL⟩ : ∃ WL, WL = rl L (D : Int) 0 := ⟨_, rfl⟩
      rw [← hWL] at HN7 ⊢
      have HWm : Hid (∀ k : Nat, k < L.length → ((k : Int) ∈ WL ↔ Rc L (D : Int) 0 k)) := hide (fun k hk => by
        rw [hWL]
        constructor
        · intro hm
          obtain ⟨k2, e, -, h2⟩ := lst_mem.1 hm
          obtain rfl : k = k2 := by omega
          exact rc_iff.1 h2
        · intro h2; exact lst_mem.2 ⟨k, rfl, by omega, rc_iff.2 h2⟩)
      have hW12 : WL.length ≤ 12 := by rw [hWL]; exact lst_len _ _
      clear hWL
      go_wp2_with fail
      go_loopw [27] (fun i w' => ∃ (m : Nat) (Ls2 : List (List Int)), m ≤ R.length ∧ i = .int .i64 m ∧ QS w' S Ls2 ∧ Ls2.length = L.length ∧ (∀ k (h : k < Ls2.length), ((∃ q, ∃ hq : q < R.length, q < m ∧ R[q] = (k : Int)) → DS L R (j + 1) k Ls2[k]) ∧ ((¬ ∃ q, ∃ hq : q < R.length, q < m ∧ R[q] = (k : Int)) → DS L R j k Ls2[k])) ∧ NV w' (.slice a7 WL.length c7) WL ∧ Below W1.heap.size W1 w') (fun i _ => R.length - (intOf i).toNat)
      case atStart => exact ⟨0, Ls, by omega, rfl, HQ7.out, HLl.out, fun k h => ⟨fun ⟨q, hq, h1, _⟩ => by omega, fun _ => HD.out k h⟩, HN7.out, HB7.out⟩
      case round =>
        clear HQ7 HN7 HB7 HD HLl
        obtain ⟨m, Ls2, hm, rfl, hQ, hLl, hD, hN7, hB⟩ := hrel
        have HQ := hide hQ
        have HD := hide hD
        have HB := hide hB
        have HN7 := hide hN7
        have HLl := hide hLl
        clear hQ hD hB hN7
        by_cases hlm : m < R.length
        · have hlm' : (m : Int) < (R.length : Int) := by omega
          obtain ⟨K, hK, hKl, hKr⟩ := HRm.out m hlm
          obtain ⟨b4, o4, e4, p4⟩ := NV.at HN3.out HB.out hlm
          simp only [Option.some.injEq, Addr.mk.injEq, and_true] at e4
          obtain ⟨rfl, rfl⟩ := e4
          rw [hK] at p4
          have HKd := hide hK
          have HKr := hide hKr
          clear hK hKr
          have hK2 : K < Ls2.length := by omega
          have HDK := hide ((HD.out K hK2).2 (fun ⟨q, hq, h1, h2⟩ => by
            have := ris_inj HRi.out hq hlm (by rw [h2, HKd.out])
            omega))
          have HDo : Hid (∀ k (h : k < Ls2.length), k ≠ K → ((∃ q, ∃ hq : q < R.length, q < m + 1 ∧ R[q] = (k : Int)) → DS L R (j + 1) k Ls2[k]) ∧ ((¬ ∃ q, ∃ hq : q < R.length, q < m + 1 ∧ R[q] = (k : Int)) → DS L R j k Ls2[k])) := hide (fun k h hne => by
            refine ⟨fun ⟨q, hq, h1, h2⟩ => (HD.out k h).1 ⟨q, hq, ?_, h2⟩, fun hn => (HD.out k h).2 (fun ⟨q, hq, h1, h2⟩ => hn ⟨q, hq, by omega, h2⟩)⟩
            by_cases e : q = m
            · subst e; rw [HKd.out] at h2; omega
            · omega)
          have HKin : Hid (∃ q, ∃ hq : q < R.length, q < m + 1 ∧ R[q] = (K : Int)) := hide ⟨m, hlm, by omega, HKd.out⟩
          go_wp2_with fail
          refine Calls.mono (l1Has_v _ WL K _ HN7.out (by omega)) ?_
          rintro e w3 ⟨rfl, hw⟩
          obtain rfl := hw.symm
          clear p4
          by_cases hmem : (K : Int) ∈ WL
          · rw [decide_eq_true hmem]
            have HD2 : Hid (∀ k (h : k < Ls2.length), ((∃ q, ∃ hq : q < R.length, q < m + 1 ∧ R[q] = (k : Int)) → DS L R (j + 1) k Ls2[k]) ∧ ((¬ ∃ q, ∃ hq : q < R.length, q < m + 1 ∧ R[q] = (k : Int)) → DS L R j k Ls2[k])) := hide (fun k h => by
              by_cases e : k = K
              · subst e
                exact ⟨fun _ => HDK.out.skip (fun hl hd => hd.2 (by
                  rw [HDd.out]
                  exact (HWm.out k hKl).1 hmem)), fun hn => absurd HKin.out hn⟩
              · exact HDo.out k h e)
            clear hmem
            go_wp2_with fail
            exact ⟨⟨m + 1, Ls2, by omega, by go_num, HQ.out, HLl.out, HD2.out, HN7.out, HB.out⟩, by simp [intOf]; omega⟩
          · rw [decide_eq_false hmem]
            have hdom : Dom L K D := ⟨HKr.out, fun h => hmem ((HWm.out K hKl).2 h)⟩
            have HPut := hide (HDK.out.put hlt (by rw [HDd.out]; simpa using hdom))
            rw [HDd.out] at HPut
            have hlen := HDK.out.len HG.out HRR.out
            obtain ⟨x, cS, hNx⟩ := HQ.out.at hK2
            have fS := HQ.out.f
            obtain ⟨ax, cxx, rfl, -⟩ := hNx.form
            have HNx := hide hNx
            obtain ⟨OL, hOL⟩ : ∃ OL, OL = Ls2[K] := ⟨_, rfl⟩
            rw [← hOL] at HNx HPut hlen cS
            have HSl := HQ.out.lt
            have hKL' : (K : Int) < (L.length : Int) := by omega
            clear hmem hdom hNx hOL HDK
            go_wp2_with fail
            refine Calls.mono (l1Put_any _ OL D _ HNx.out (by omega)) ?_
            rintro e w4 ⟨v4, rfl, hN4, hb⟩
            have hN4' := hN4
            obtain ⟨y4, z4, ev4, -⟩ := hN4'.form
            obtain ⟨n4, hn4⟩ : ∃ n4, n4 = (putL OL D).length := ⟨_, rfl⟩
            rw [← hn4] at ev4
            subst ev4
            clear hN4' hn4
            have HB4 := hide (HB.out.trans (hb.mono HB.out.size))
            have HQ4 := HQ.out.below hb
            have HN74 := HN7.out.below hb
            have HQ5 := hide (HQ4.set (i := K) hK2 hN4)
            have HN75 := hide (HN74.setS HQ4 K (.slice y4 n4 z4))
            obtain ⟨y, cS4, -⟩ := HQ4.at hK2
            have fS4 := HQ4.f
            have HB5 : Hid (Below W1.heap.size W1 (w4.setCell ⟨S, K, none⟩ (.slice y4 n4 z4))) := hide (HB4.out.setCell (p := ⟨S, K, none⟩) (by have := HSW.out; simp; omega) _)
            have HL5 : Hid ((Ls2.set K (putL OL D)).length = L.length) := hide (by rw [List.length_set]; exact HLl.out)
            have HD5 : Hid (∀ k (h : k < (Ls2.set K (putL OL D)).length), ((∃ q, ∃ hq : q < R.length, q < m + 1 ∧ R[q] = (k : Int)) → DS L R (j + 1) k (Ls2.set K (putL OL D))[k]) ∧ ((¬ ∃ q, ∃ hq : q < R.length, q < m + 1 ∧ R[q] = (k : Int)) → DS L R j k (Ls2.set K (putL OL D))[k])) := hide (fun k h => by
              by_cases e : K = k
              · subst e
                rw [List.getElem_set_self]
                exact ⟨fun _ => HPut.out, fun hn => absurd HKin.out hn⟩
              · rw [List.getElem_set_ne e]
                exact HDo.out k (by simpa using h) (fun x => e x.symm))
            clear hb HN74 HQ4 hN4 cS fS
            go_wp2_with fail
            exact ⟨⟨m + 1, _, by omega, by go_num, HQ5.out, HL5.out, HD5.out, HN75.out, HB5.out⟩, by simp [intOf]; omega⟩
        · have HD2 : Hid (∀ k (h : k < Ls2.length), DS L R (j + 1) k Ls2[k]) := hide (fun k h => by
            by_cases e : ∃ q, ∃ hq : q < R.length, q < m ∧ R[q] = (k : Int)
            · exact (HD.out k h).1 e
            · refine ((HD.out k h).2 e).skip (fun hl hd => e ?_)
              obtain ⟨q, hq, h2⟩ := HRc.out k hd.1
              exact ⟨q, hq, by omega, h2⟩)
          go_wp2_with fail
          exact ⟨⟨j + 1, Ls2, by omega, by go_num, HQ.out, HLl.out, HD2.out, HB.out⟩, by simp [intOf]; omega⟩
    · have HE : Hid (Ls = dls L) := hide (by
        refine List.ext_getElem (by rw [dls_len]; exact HLl.out) (fun k h1 h2 => ?_)
        rw [dls_at L h2]
        have := HD.out k h1
        rw [show j = R.length by omega] at this
        exact this.done HG.out HRR.out)
      have HBw := hide (hB1.trans (HB.out.mono hB1.size))
      go_wp2_with fail
      go_ret
      exact ⟨S, rfl, hSw, by rw [← HE.out]; exact HQ.out, HBw.out⟩
end Go.Proofs.Ytgmablmkjngkkaa.W

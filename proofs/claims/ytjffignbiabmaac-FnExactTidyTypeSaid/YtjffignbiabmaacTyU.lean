/-
  Types with variables numbered by their places on a list, by the specification: a contract of l5Renamed. Conditions: as the theorem states.
-/
import Derived.Test.YtjffignbiabmaacTyVa
import Derived.Deep.RegionHeld3
namespace Go.Proofs.Ytjffignbiabmaac.Y
open Go.Proofs.Ytjffignbiabmaac.W
open Go.ChangeShapes Go.WideShapes Go.ChangeAt Go.RowKit
set_option linter.unusedVariables false

/-- A kid more behind a tree's kids. -/
theorem row_step {wr w5 w6 : World} {B : Obj} {b0 O al g6 cap6 : Nat} {own : Option Nat} {F1 kk : F} {cs : List Value} {zz : Cc} {s5 : Value} {T : TypeId} {x0 x1 sO : Value}
    (h5 : Below wr.heap.size wr w5) (hK : KidsAt wr (fun g => b0 ≤ g ∧ own ≠ some g) F1 cs) (hT : KidT w5 (fun g => wr.heap.size ≤ g) kk s5)
    (ho : w6.ownsRow b0 T 3 (.slice (some ⟨g6, 0, none⟩) (al + 1) cap6) (al + 1) (cs ++ tC zz s5)) (hg : (w5.alloc B).grownBy w6 own) (hat : own = some g6 ∨ g6 = (w5.alloc B).heap.size)
    (hl : ∀ k, own = some k → b0 ≤ k ∧ k < wr.heap.size) (hO : O < b0) (hb : b0 ≤ wr.heap.size) (hOc : wr.heap[O]? = some (.cells #[x0, x1, sO] T (0, 0))) :
    KidsAt (w6.setCell ⟨O, 2, none⟩ (.slice (some ⟨g6, 0, none⟩) (al + 1) cap6)) (fun g => b0 ≤ g ∧ (Value.slice (some ⟨g6, 0, none⟩) (al + 1) cap6).ownBlock ≠ some g) (F1.app (.cons zz kk .nil)) (cs ++ tC zz s5) ∧
    (w6.setCell ⟨O, 2, none⟩ (.slice (some ⟨g6, 0, none⟩) (al + 1) cap6)).ownsRow b0 T 3 (.slice (some ⟨g6, 0, none⟩) (al + 1) cap6) (al + 1) (cs ++ tC zz s5) ∧
    Holds (w6.setCell ⟨O, 2, none⟩ (.slice (some ⟨g6, 0, none⟩) (al + 1) cap6)) (fun g => b0 ≤ g) (.slice (some ⟨g6, 0, none⟩) (al + 1) cap6) (al + 1) (cs ++ tC zz s5) ∧
    (∀ k, k < b0 → k ≠ O → (w6.setCell ⟨O, 2, none⟩ (.slice (some ⟨g6, 0, none⟩) (al + 1) cap6)).heap[k]? = wr.heap[k]?) ∧
    (w6.setCell ⟨O, 2, none⟩ (.slice (some ⟨g6, 0, none⟩) (al + 1) cap6)).heap[O]? = some (.cells #[x0, x1, .slice (some ⟨g6, 0, none⟩) (al + 1) cap6] T (0, 0)) ∧
    wr.heap.size ≤ (w6.setCell ⟨O, 2, none⟩ (.slice (some ⟨g6, 0, none⟩) (al + 1) cap6)).heap.size ∧ Below O wr (w6.setCell ⟨O, 2, none⟩ (.slice (some ⟨g6, 0, none⟩) (al + 1) cap6)) := by
  have hs5 := h5.size
  have hs6 : w5.heap.size + 1 ≤ w6.heap.size := by have := hg.size; simpa using this
  have hbf : ∀ k, k ≠ O → (w6.setCell ⟨O, 2, none⟩ (.slice (some ⟨g6, 0, none⟩) (al + 1) cap6)).heap[k]? = w6.heap[k]? := fun k hk => Below.heap_setCell _ _ _ _ hk
  have hss : (w6.setCell ⟨O, 2, none⟩ (.slice (some ⟨g6, 0, none⟩) (al + 1) cap6)).heap.size = w6.heap.size := by simp [World.setCell]
  have hk6 : ∀ k, own ≠ some k → k < w5.heap.size → w6.heap[k]? = w5.heap[k]? := fun k hn hlt => by
    rw [hg.block k (by simp; omega) (fun e => hn e.symm), heap_alloc_old _ _ hlt]
  have hg6 : ∀ k, k < w5.heap.size → own ≠ some k → (Value.slice (some ⟨g6, 0, none⟩) (al + 1) cap6).ownBlock ≠ some k := fun k hlt hn e => by
    simp only [Value.ownBlock, Option.some.injEq] at e
    subst e
    rcases hat with h | h
    · exact hn h
    · simp at h; omega
  have hgl : b0 ≤ g6 ∧ g6 < w6.heap.size := ho.lt g6 rfl
  have k1 : KidsAt (w6.setCell ⟨O, 2, none⟩ (.slice (some ⟨g6, 0, none⟩) (al + 1) cap6)) (fun g => b0 ≤ g ∧ (Value.slice (some ⟨g6, 0, none⟩) (al + 1) cap6).ownBlock ≠ some g) F1 cs := by
    refine hK.keep (by rw [hss]; omega) (fun k hk1 hk2 => ⟨?_, hk1.1, hg6 k (by omega) hk1.2⟩)
    rw [hbf k (by omega), hk6 k hk1.2 (by omega), h5.block k hk2]
  have hown : ∀ k, wr.heap.size ≤ k → own ≠ some k := fun k hk e => by have := (hl k e).2; omega
  have k2 : KidT (w6.setCell ⟨O, 2, none⟩ (.slice (some ⟨g6, 0, none⟩) (al + 1) cap6)) (fun g => b0 ≤ g ∧ (Value.slice (some ⟨g6, 0, none⟩) (al + 1) cap6).ownBlock ≠ some g) kk s5 := by
    refine hT.keep (by rw [hss]; omega) (fun k hk1 hk2 => ⟨?_, by omega, hg6 k hk2 (hown k hk1)⟩)
    rw [hbf k (by omega), hk6 k (hown k hk1) hk2]
  have hall : ∀ k, k < b0 → k ≠ O → (w6.setCell ⟨O, 2, none⟩ (.slice (some ⟨g6, 0, none⟩) (al + 1) cap6)).heap[k]? = wr.heap[k]? := fun k hk1 hk2 => by
    rw [hbf k hk2, hk6 k (fun e => by have := (hl k e).1; omega) (by omega), h5.block k (by omega)]
  have hO6 : w6.heap[O]? = some (.cells #[x0, x1, sO] T (0, 0)) := by
    rw [hk6 O (fun e => by have := (hl O e).1; omega) (by omega), h5.block O (by omega)]; exact hOc
  refine ⟨KidsAt.app k1 ⟨s5, [], (List.append_nil _).symm, k2, rfl⟩, tOwn_keep ho (fun k hk1 hk2 => hbf k (by omega)), ?_, hall, ?_, by rw [hss]; omega, ?_⟩
  · obtain ⟨g, cap, he, hgb, hgs, hgc⟩ := tOwn_lies ho (by omega)
    simp only [Value.slice.injEq, Option.some.injEq, Addr.mk.injEq, and_true, true_and] at he
    obtain ⟨rfl, rfl⟩ := he
    refine .inr ⟨by omega, _, _, rfl, hgb, by rw [hss]; exact hgs, fun j v hj => ?_⟩
    rw [World.cell?_of_block (w := w6) (hbf _ (by dsimp only; omega))]
    exact hgc j v hj
  · rw [blk_setCell hO6]; rfl
  · refine ⟨?_, ?_, ?_, by rw [hss]; omega, fun k hk => hall k (by omega) (by omega)⟩
    · exact hg.os.trans h5.os
    · exact hg.tape.trans h5.tape
    · exact hg.output.trans h5.output

def L5RGoal (k : F) : Prop := ∀ (x : Cc) (s so : Value) (L : List Int) (P : Nat → Prop) (w : World), goodC x = true → k.len = ar x.k → k.ok → (∀ q ∈ x :: k.flat, q.k = 1 → q.n ∈ L) → L.Nodup → L.length + k.flat.length ≤ 1000 → KidT w P k s → IS w so L →
    Calls Try.prog 33 #[.agg #[.int .i64 x.k, .int .i64 x.n, s], so] w fun e w' => ∃ s', e = .returned (.agg #[.int .i64 (rn L x).k, .int .i64 (rn L x).n, s']) ∧ KidT w' (fun g => w.heap.size ≤ g) (k.map (rn L)) s' ∧ Below w.heap.size w w'

theorem nodup_idx {L : List Int} (hnd : L.Nodup) {j : Nat} (hj : j < L.length) {n : Int} (h : L[j] = n) : L.idxOf n = j := by
  have hm : n ∈ L := h ▸ List.getElem_mem hj
  have h1 := List.idxOf_lt_length_of_mem hm
  have h2 : L[L.idxOf n] = n := List.getElem_idxOf h1
  exact (List.getElem_inj hnd).1 (h2.trans h.symm)

set_option maxRecDepth 20000 in
set_option maxHeartbeats 8000000 in
theorem l5Renamed_any : ∀ k, L5RGoal k := by
  apply F.rec_kids
  intro k ih x s so L P w hgx hka hko hmem hnd hLl0 hT hIS
  have IH := hide ih
  have HT := hide hT
  have HKO := hide hko
  have HIS := hide hIS
  have HNd := hide hnd
  have HMem : Hid (∀ q ∈ k.flat, q.k = 1 → q.n ∈ L) := hide (fun q hq => hmem q (List.mem_cons_of_mem _ hq))
  have hxm : x.k = 1 → x.n ∈ L := hmem x (by simp)
  obtain ⟨sad, sc, rfl⟩ := hT.form
  obtain ⟨lad, lc, hso⟩ := hIS.form
  clear ih hT hko hIS hnd hmem
  obtain ⟨i0, hi0, hz0, hz1, hz2⟩ := infoPartsT infoT
  have Hi := hide hi0
  clear hi0
  have hkl := F.len_flat k
  have hd : k.flat.length ≤ 1000 := by omega
  obtain ⟨KL, hKL⟩ : ∃ KL, KL = k.len := ⟨_, rfl⟩
  rw [← hKL] at HT hkl ⊢
  have HKL := hide hKL
  clear hKL
  obtain ⟨xk, xn⟩ := x
  simp only at *
  obtain ⟨z, hz⟩ : ∃ z, z = rn L ⟨xk, xn⟩ := ⟨_, rfl⟩
  rw [← hz]
  by_cases hx0 : xk = 1
  · subst hx0
    have hk0 : k = .nil := F.len_0 (by rw [hka]; rfl)
    subst hk0
    obtain rfl : KL = 0 := HKL.out
    have hxm' := hxm rfl
    have hz' : z = ⟨1, (L.idxOf xn : Nat)⟩ := by rw [hz]; exact if_pos rfl
    subst hz'
    clear HKL hka hkl IH hz hgx hxm HMem hd
    have hil := List.idxOf_lt_length_of_mem hxm'
    have hgi : L[L.idxOf xn] = xn := List.getElem_idxOf hil
    have HNi := hide (fun (j : Nat) (hj : j < L.length) (h : L[j] = xn) => nodup_idx HNd.out hj h)
    obtain ⟨I, hI⟩ : ∃ I, I = L.idxOf xn := ⟨_, rfl⟩
    have HGi : Hid (∀ j (hj : j < L.length), j = I → L[j] = xn) := hide (fun j hj e => by subst e; subst hI; exact hgi)
    rw [← hI] at hil HNi ⊢
    clear hI hgi hxm'
    subst hso
    have HB3 : Hid (∀ o1 o2 o3 : Obj, Below w.heap.size w (((w.alloc o1).alloc o2).alloc o3)) := hide (fun o1 o2 o3 => (((Below.refl _ _).alloc (Nat.le_refl _) _).alloc (by simp) _).alloc (by simp; omega) _)
    go_enter Try.func33, Try.ntmps33
    go_wp2_with fail
    go_loopw [20] (fun i w' => ∃ (j : Nat) (cn : Int), j ≤ L.length ∧ i = .int .i64 j ∧ cn = (if I < j then (I : Int) else xn) ∧ w' = (((w.alloc (.cells #[.int .i64 1, .int .i64 xn, .slice sad 0 sc] 41)).alloc (.cells #[.int .i64 0, .int .i64 0, .slice none 0 0] 41)).alloc (.cells #[.int .i64 1, .int .i64 cn, .slice none 0 0] 41))) (fun i _ => L.length - (intOf i).toNat)
    case atStart => exact ⟨0, xn, by omega, rfl, by rw [if_neg (by omega)], rfl⟩
    case round =>
      obtain ⟨j, cn, hj, rfl, hcn, rfl⟩ := hrel
      by_cases hlt : j < L.length
      · have hlt' : (j : Int) < (L.length : Int) := by omega
        have c1 : ∃ g, lad = some ⟨g, 0, none⟩ ∧ g < w.heap.size ∧ w.cell? ⟨g, j, none⟩ = some (.int .i64 L[j]) := by
          rcases HIS.out with ⟨h1, h2⟩ | ⟨g, c, h1, h2, h3, h4⟩
          · rw [h2] at hlt; simp at hlt
          · simp only [Value.slice.injEq] at h1
            exact ⟨g, h1.1, h3, h4 j hlt⟩
        obtain ⟨g1, rfl, hg1, p1'⟩ := c1
        have p1 : ∀ o1 o2 o3 : Obj, (((w.alloc o1).alloc o2).alloc o3).cell? ⟨g1, j, none⟩ = some (.int .i64 L[j]) := fun o1 o2 o3 => ((HB3.out o1 o2 o3).cell (p := ⟨g1, j, none⟩) hg1).trans p1'
        clear p1'
        have HCn := hide hcn
        clear hcn
        by_cases hx : L[j] = xn
        · have hIj : I = j := HNi.out j hlt hx
          rw [hx] at p1
          go_wp2_with fail
          refine ⟨⟨j + 1, (j : Int), by omega, by go_num, ?_, ?_⟩, by simp [intOf]; omega⟩
          · rw [if_pos (by omega), hIj]
          · first | rfl | trivial
        · have hne : ¬ I = j := fun e => hx (HGi.out j hlt e.symm)
          have HX := hide hx
          obtain ⟨y, hy⟩ : ∃ y, y = L[j] := ⟨_, rfl⟩
          rw [← hy] at p1 hx
          have hxb : (y == xn) = false := by simpa using hx
          clear hy HX
          go_wp2_with fail
          refine ⟨⟨j + 1, cn, by omega, by go_num, ?_, ?_⟩, by simp [intOf]; omega⟩
          · rw [HCn.out]
            by_cases h : I < j
            · rw [if_pos h, if_pos (by omega)]
            · rw [if_neg h, if_neg (by omega)]
          · first | rfl | trivial
      · obtain rfl : j = L.length := by omega
        rw [if_pos hil] at hcn
        subst hcn
        go_wp2_with fail
        refine wp_loop_rounds 1 ?_
        rw [rounds_succ]
        go_wp2_with fail
        exact bodyPost_ret (v := .agg #[.int .i64 1, .int .i64 (I : Int), .slice none 0 0]) (by simp [results, Try.results33, go_sem]) rfl ⟨_, rfl, KidT.nil, HB3.out _ _ _⟩
  · have hz' : z = ⟨xk, xn⟩ := by rw [hz]; exact if_neg hx0
    subst hz'
    clear hz hka
    have hxb : (xk == 1) = false := by simp [hx0]
    clear hso hxm hgx
    go_enter Try.func33, Try.ntmps33
    go_wp2_with fail
    obtain ⟨T0, hT0⟩ : ∃ T0, T0 = w.heap.size := ⟨_, rfl⟩
    obtain ⟨w0, hw0⟩ : ∃ w0, w0 = (((w.alloc (.cells #[.int .i64 xk, .int .i64 xn, .slice sad KL sc] 41)).alloc (.cells #[.int .i64 0, .int .i64 0, .slice none 0 0] 41)).alloc (.cells #[.int .i64 xk, .int .i64 xn, .slice none 0 0] 41)) := ⟨_, rfl⟩
    have hB0 : Below w.heap.size w w0 := by rw [hw0]; exact (((Below.refl _ _).alloc (Nat.le_refl _) _).alloc (by simp) _).alloc (by simp; omega) _
    have hbT : w0.heap[w.heap.size]? = some (.cells #[.int .i64 xk, .int .i64 xn, .slice sad KL sc] 41) := by rw [hw0, heap_alloc_old _ _ (by simp; omega), heap_alloc_old _ _ (by simp)]; exact heap_alloc_new _ _
    have hbR : w0.heap[w.heap.size + 1]? = some (.cells #[.int .i64 0, .int .i64 0, .slice none 0 0] 41) := by rw [hw0, heap_alloc_old _ _ (by simp)]; have := heap_alloc_new (w.alloc (.cells #[.int .i64 xk, .int .i64 xn, .slice sad KL sc] 41)) (.cells #[.int .i64 0, .int .i64 0, .slice none 0 0] 41); simpa using this
    have hbO : w0.heap[w.heap.size + 1 + 1]? = some (.cells #[.int .i64 xk, .int .i64 xn, .slice none 0 0] 41) := by rw [hw0]; have := heap_alloc_new ((w.alloc (.cells #[.int .i64 xk, .int .i64 xn, .slice sad KL sc] 41)).alloc (.cells #[.int .i64 0, .int .i64 0, .slice none 0 0] 41)) (.cells #[.int .i64 xk, .int .i64 xn, .slice none 0 0] 41); simpa using this
    have hsz0 : w0.heap.size = w.heap.size + 1 + 1 + 1 := by rw [hw0]; simp
    rw [← hw0]
    have HT0 := hide hbT
    have HR0 := hide hbR
    have HO0 := hide hbO
    have HSz0 := hide hsz0
    clear hw0 hbT hbR hbO hsz0 hT0
    go_loopw [35] (fun i w' => ∃ (a b : F) (s : Value) (cs : List Value), k = a.app b ∧ i = .int .i64 (a.len : Int) ∧ Below w.heap.size w w' ∧ w0.heap.size ≤ w'.heap.size ∧ w'.heap[w.heap.size]? = some (.cells #[.int .i64 xk, .int .i64 xn, .slice sad KL sc] 41 (0, 0)) ∧ w'.heap[w.heap.size + 1]? = some (.cells #[.int .i64 0, .int .i64 0, .slice none 0 0] 41 (0, 0)) ∧ w'.heap[w.heap.size + 1 + 1]? = some (.cells #[.int .i64 xk, .int .i64 xn, s] 41 (0, 0)) ∧
      KidsAt w' (fun g => w0.heap.size ≤ g ∧ s.ownBlock ≠ some g) (a.map (rn L)) cs ∧ w'.ownsRow w0.heap.size 41 3 s a.len cs ∧ Holds w' (fun g => w0.heap.size ≤ g) s a.len cs) (fun i _ => KL - (intOf i).toNat)
    case atStart => exact ⟨.nil, k, _, [], rfl, rfl, hB0, Nat.le_refl _, HT0.out, HR0.out, HO0.out, rfl, World.ownsRow_nil _ _ _ _, .inl ⟨rfl, rfl⟩⟩
    case round =>
      obtain ⟨a, b, so, cs, hk, rfl, hBr, hszr, hbT, hbR, hbO, hKs, hOw, hHo⟩ := hrel
      clear HT0 HR0 HO0 hB0
      have HT1 := hide hbT
      have HR1 := hide hbR
      have HO1 := hide hbO
      have HKs := hide hKs
      have HOw := hide hOw
      have HHo := hide hHo
      obtain ⟨oad, oc, hform⟩ := iOwn_form hOw
      subst hform
      clear hbT hbR hbO hKs hOw hHo
      cases b with
      | nil =>
        rw [F.app_nil] at hk
        subst hk
        have hKL := HKL.out
        rw [← hKL]
        rw [← hKL] at HO1 HHo
        clear hKL
        have z0 := cell_of_blk HR1.out 0
        have z1 := cell_of_blk HR1.out 1
        have z2 := cell_of_blk HR1.out 2
        have fz := unfrozen_of_blk HR1.out
        have y0 := cell_of_blk HO1.out 0
        have y1 := cell_of_blk HO1.out 1
        have y2 := cell_of_blk HO1.out 2
        simp only [List.getElem?_toArray, List.getElem?_cons_zero, List.getElem?_cons_succ] at z0 z1 z2 y0 y1 y2
        go_wp2_with fail
        refine bodyPost_ret (v := .agg #[.int .i64 xk, .int .i64 xn, .slice oad KL oc]) (by simp [results, Try.results33, go_sem, *]) rfl ⟨_, rfl, ?_, ((hBr.setCell (p := ⟨w.heap.size + 1, 0, none⟩) (by simp) _).setCell (p := ⟨w.heap.size + 1, 1, none⟩) (by simp) _).setCell (p := ⟨w.heap.size + 1, 2, none⟩) (by simp) _⟩
        have hsz := HSz0.out
        have hkk : KidT wr (fun g => w0.heap.size ≤ g) (k.map (rn L)) (.slice oad KL oc) := ⟨cs, HKs.out.keep (Nat.le_refl _) (fun g h1 _ => ⟨rfl, h1.1⟩), by rw [map_len, ← HKL.out]; exact HHo.out⟩
        refine hkk.keep (by simp [World.setCell]) (fun g h1 h2 => ⟨?_, by omega⟩)
        have hkn : g ≠ w.heap.size + 1 := by omega
        rw [Below.heap_setCell _ _ _ _ hkn, Below.heap_setCell _ _ _ _ hkn, Below.heap_setCell _ _ _ _ hkn]
      | cons y ky b =>
        have hsz0 := HSz0.out
        have hkl2 : KL = a.len + (b.len + 1) := by rw [HKL.out, hk, F.app_len]; rfl
        have hlt' : (a.len : Int) < (KL : Int) := by omega
        have hfk : k.flat.length = a.flat.length + (1 + ky.flat.length + b.flat.length) := by rw [hk, F.app_flat]; simp [F.flat]; omega
        have hI := IH.out
        have hKO := HKO.out
        rw [hk] at hI hKO
        obtain ⟨g, cap, sy, he, hPg, hg, hTy, p0, p1, p2⟩ := KidT.kid (a := a) (k := ky) (r := b) (x := y) (s := .slice sad KL sc) (by rw [← hk]; exact HT.out)
        simp only [Value.slice.injEq] at he
        obtain ⟨rfl, -, rfl⟩ := he
        have q0 := (hBr.cell (p := ⟨g, a.len * 3, none⟩) hg).trans p0
        have q1 := (hBr.cell (p := ⟨g, a.len * 3 + 1, none⟩) hg).trans p1
        have q2 := (hBr.cell (p := ⟨g, a.len * 3 + 2, none⟩) hg).trans p2
        obtain ⟨g1, l1, o1, -⟩ : goodC y = true ∧ ky.len = ar y.k ∧ ky.ok ∧ b.ok := ((F.app_ok _ _).1 hKO).2
        have hmm : ∀ q ∈ y :: ky.flat, q.k = 1 → q.n ∈ L := fun q hq => HMem.out q (by rw [hk, F.app_flat]; exact List.mem_append_right _ (by simp only [F.flat, List.mem_cons, List.mem_append] at hq ⊢; rcases hq with h | h; exact .inl h; exact .inr (.inl h)))
        have HC := hide (fun (w' : World) (hw' : Below w.heap.size w w') => F.all_at hI y sy so L P w' g1 l1 o1 hmm HNd.out (by omega) (hTy.keep hw'.size (fun k h1 h2 => ⟨hw'.block k h2, h1⟩)) (HIS.out.below hw'))
        obtain ⟨yad, yc, rfl⟩ := hTy.form
        have HSn := hide (hk.trans (F.app_snoc a ky b y))
        have HDl : Hid ((a.app (.cons y ky .nil)).len = a.len + 1) := hide (by rw [F.app_len]; rfl)
        have HSh : Hid ((a.app (.cons y ky .nil)).map (rn L) = (a.map (rn L)).app (.cons (rn L y) (ky.map (rn L)) .nil)) := hide (by rw [map_app]; rfl)
        have HKl2 := hide hkl2
        have hcsl := HOw.out.1
        clear p0 p1 p2 hTy hI hk hkl2 hfk hKO g1 l1 o1 hmm
        obtain ⟨al, hal⟩ : ∃ al, al = a.len := ⟨_, rfl⟩
        obtain ⟨kn, hkn⟩ : ∃ kn, kn = ky.len := ⟨_, rfl⟩
        obtain ⟨zz, hzz⟩ : ∃ zz, zz = rn L y := ⟨_, rfl⟩
        obtain ⟨kk, hkk⟩ : ∃ kk, kk = ky.map (rn L) := ⟨_, rfl⟩
        rw [← hzz, ← hkk] at HC HSh
        rw [← hal] at hlt' q0 q1 q2 HDl HKl2 HO1 HOw HHo HKs hcsl ⊢
        rw [← hkn] at HC q2
        clear hal hkn hzz hkk
        have c0 : wr.cell? ⟨w.heap.size, 0, none⟩ = some (.int .i64 xk) := (cell_of_blk HT1.out 0).trans rfl
        have c4 : wr.cell? ⟨w.heap.size + 1 + 1, 2, none⟩ = some (.slice oad al oc) := (cell_of_blk HO1.out 2).trans rfl
        have hal3 : al < 2000001 := by omega
        go_wp2_with fail
        obtain ⟨w3, hw3⟩ : ∃ w3, w3 = wr.alloc (.cells #[.int .i64 y.k, .int .i64 y.n, .slice yad kn yc] 41) := ⟨_, rfl⟩
        rw [← hw3]
        have hb3 : w3.heap[wr.heap.size]? = some (.cells #[.int .i64 y.k, .int .i64 y.n, .slice yad kn yc] 41) := by rw [hw3]; exact heap_alloc_new _ _
        have hBr3 : Below wr.heap.size wr w3 := by rw [hw3]; exact (Below.refl _ _).alloc (Nat.le_refl _) _
        have hsz3 : wr.heap.size < w3.heap.size := (Array.getElem?_eq_some_iff.1 hb3).1
        have hB3 : Below w.heap.size w w3.drew := belowDrew (hBr.trans (hBr3.mono hBr.size))
        have e0 : w3.cell? ⟨wr.heap.size, 0, none⟩ = some (.int .i64 y.k) := (cell_of_blk hb3 0).trans rfl
        have e1 : w3.cell? ⟨wr.heap.size, 1, none⟩ = some (.int .i64 y.n) := (cell_of_blk hb3 1).trans rfl
        have e2 : w3.cell? ⟨wr.heap.size, 2, none⟩ = some (.slice yad kn yc) := (cell_of_blk hb3 2).trans rfl
        have e3 : w3.cell? ⟨w.heap.size, 0, none⟩ = some (.int .i64 xk) := (hBr3.cell (p := ⟨w.heap.size, 0, none⟩) (by show w.heap.size < _; omega)).trans c0
        have e4 : w3.cell? ⟨w.heap.size + 1 + 1, 2, none⟩ = some (.slice oad al oc) := (hBr3.cell (p := ⟨w.heap.size + 1 + 1, 2, none⟩) (by show w.heap.size + 1 + 1 < _; omega)).trans c4
        have HB3 := hide hB3
        have HBr3 := hide hBr3
        have hXO : ¬ wr.heap.size = w.heap.size + 1 + 1 := by omega
        have hXO' : ¬ w.heap.size + 1 + 1 = wr.heap.size := by omega
        have hTO : ¬ w.heap.size = w.heap.size + 1 + 1 := by omega
        have HNo : Hid (∀ k, (Value.slice oad al oc).ownBlock = some k → w0.heap.size ≤ k ∧ k < wr.heap.size) := hide (HOw.out.lt)
        have M1 : Hid (al + 1 ≤ maxLen) := hide (by unfold maxLen; omega)
        clear hw3 hb3 hBr3 q0 q1 q2 c0 c4 hB3
        go_region_law
          (first
            | (refine step_append_lies _ rfl _ _ 39 rfl w0.heap.size 41 i0 (.agg #[.int .i64 0, .int .i64 0, .slice none 0 0]) 3 40 Try.underlying39 Hi.out hz0 hz1 hz2 rfl (by decide) _ al cs rfl HOw5.out ⟨w5.heap.size, 0, none⟩ 1 1 (tC zz (.slice pad kk.len pc)) rfl rfl HNw.out (tC_one _ _ rfl) (by omega) M1.out (by omega) HBs.out _ rfl ?_; intro g6 cap6 w6 hown6 hgrow6 hat6 hlt6; have HO6 := hide hown6; have HG6 := hide hgrow6; have HA6 := hide hat6; have HO16 : Hid (w6.heap[w.heap.size + 1 + 1]? = some (.cells #[.int .i64 xk, .int .i64 xn, .slice oad al oc] 41 (0, 0))) := hide ((hgrow6.block _ HOl.out HNn.out).trans HO15.out); have f6 := (cell_of_blk HO16.out 2).trans rfl; have ff6 := unfrozen_of_blk HO16.out 2; clear hown6 hgrow6 hat6)
            | (go_simp; go_wp2_with ((go_at_call 33; refine Calls.mono (HC.out _ HB3.out) ?_; rintro e w5 ⟨s5, rfl, hs5, hb5⟩; obtain ⟨pad, pc, rfl⟩ := hs5.form; have HS5 := hide hs5; have HB5 := hide hb5; clear hs5 hb5; have f0 := (HB5.out.cell (p := ⟨wr.heap.size, 0, none⟩) hsz3).trans e0; have f1 := (HB5.out.cell (p := ⟨wr.heap.size, 1, none⟩) hsz3).trans e1; have f2 := (HB5.out.cell (p := ⟨wr.heap.size, 2, none⟩) hsz3).trans e2; have f3 := (HB5.out.cell (p := ⟨w.heap.size, 0, none⟩) (show w.heap.size < w3.heap.size by omega)).trans e3; have f4 := (HB5.out.cell (p := ⟨w.heap.size + 1 + 1, 2, none⟩) (show w.heap.size + 1 + 1 < w3.heap.size by omega)).trans e4; have f5 : (w5.alloc (.cells #[.int .i64 zz.k, .int .i64 zz.n, .slice pad kk.len pc] 41)).cell? ⟨w.heap.size + 1 + 1, 2, none⟩ = some (.slice oad al oc) := (by rw [World.cell?_alloc_some _ _ _ (by rw [f4]; rfl)]; exact f4); have HOw5 : Hid ((w5.alloc (.cells #[.int .i64 zz.k, .int .i64 zz.n, .slice pad kk.len pc] 41)).ownsRow w0.heap.size 41 3 (.slice oad al oc) al cs) := hide ((tOwn_keep HOw.out (fun k _ hk => (HB5.out.block k (show k < w3.heap.size by omega)).trans (HBr3.out.block k hk))).alloc _); have HNw : Hid (∀ j u, (tC zz (.slice pad kk.len pc))[j]? = some u → (w5.alloc (.cells #[.int .i64 zz.k, .int .i64 zz.n, .slice pad kk.len pc] 41)).cell? ((⟨w5.heap.size, 0, none⟩ : Addr).add j) = some u) := hide (tC_cells (heap_alloc_new w5 _)); have hsz5 := HB5.out.size; have HBs : Hid (w0.heap.size ≤ (w5.alloc (.cells #[.int .i64 zz.k, .int .i64 zz.n, .slice pad kk.len pc] 41)).heap.size) := hide (by have h1 : w3.heap.size ≤ w5.heap.size := hsz5; simp; omega); have HO15 : Hid ((w5.alloc (.cells #[.int .i64 zz.k, .int .i64 zz.n, .slice pad kk.len pc] 41)).heap[w.heap.size + 1 + 1]? = some (.cells #[.int .i64 xk, .int .i64 xn, .slice oad al oc] 41 (0, 0))) := hide (by have h1 : w3.heap.size ≤ w5.heap.size := hsz5; rw [heap_alloc_old _ _ (by omega), HB5.out.block _ (show w.heap.size + 1 + 1 < w3.heap.size by omega)]; exact (HBr3.out.block _ (by omega)).trans HO1.out); have HOl : Hid (w.heap.size + 1 + 1 < (w5.alloc (.cells #[.int .i64 zz.k, .int .i64 zz.n, .slice pad kk.len pc] 41)).heap.size) := hide (Array.getElem?_eq_some_iff.1 HO15.out).1; have HNn : Hid (some (w.heap.size + 1 + 1) ≠ (Value.slice oad al oc).ownBlock) := hide (fun e => by have := (HNo.out _ e.symm).1; omega)))))
        all_goals
          have hrs := hide (row_step (F1 := a.map (rn L)) (HBr3.out.trans (show Below wr.heap.size w3 w5 from ⟨HB5.out.os, HB5.out.tape, HB5.out.output, HB5.out.size, fun k hk => HB5.out.block k (show k < w3.heap.size by omega)⟩)) HKs.out (HS5.out.weak (fun g h1 h2 => by have h3 : w3.heap.size ≤ g := h1; omega)) HO6.out HG6.out HA6.out HNo.out (show w.heap.size + 1 + 1 < w0.heap.size by omega) hszr HO1.out)
          clear HS5 HB5 f0 f1 f2 f3 f4 f5 HOw5 HNw hsz5 HBs HO15 HOl HNn HO6 HG6 HA6 HO16 f6 ff6 e0 e1 e2 e3 e4 HB3 HBr3 HNo HC hXO hXO' hTO
          go_wp2_with fail
          obtain ⟨r1, r2, r3, r4, r5, r6, r7⟩ := hrs.out
          have hkl2 := HKl2.out
          refine ⟨⟨a.app (.cons y ky .nil), b, _, cs ++ tC zz (.slice pad kk.len pc), HSn.out, by rw [HDl.out]; go_num, hBr.trans (r7.mono (by omega)), by omega, (r4 _ (by omega) (by omega)).trans HT1.out, (r4 _ (by omega) (by omega)).trans HR1.out, r5, by rw [HSh.out]; exact r1, by rw [HDl.out]; exact r2, by rw [HDl.out]; exact r3⟩, by simp [intOf]; omega⟩
end Go.Proofs.Ytjffignbiabmaac.Y

/-
  Types with variables numbered anew, by the specification: contracts of l5Tidy and TidyType. Conditions: at most 1048576 cells.
-/
import Derived.Test.YtjffignbiabmaacTyU
import Derived.Test.YtjffignbiabmaacTyF
namespace Go.Proofs.Ytjffignbiabmaac.Y
open Go.Proofs.Ytjffignbiabmaac.W
open Go.ChangeShapes Go.WideShapes Go.ChangeAt Go.RowKit
set_option linter.unusedVariables false

/-- What TidyType tells. -/
def tdL (l : List Cc) : List Cc := if goodT l = true then tidy l else []
def RT (w : World) (l : List Cc) (e : Ending) (w' : World) : Prop := ∃ s', e = .returned (.tuple #[s', .bool (goodT l)]) ∧ w'.ownsRow w.heap.size 48 2 s' (tdL l).length (cv (tdL l)) ∧ Below w.heap.size w w'
theorem tdL_len (l : List Cc) : (tdL l).length ≤ l.length := by unfold tdL tidy; split <;> simp

set_option maxRecDepth 20000 in
set_option maxHeartbeats 2000000 in
theorem l5Tidy_any (x : Cc) (k : F) (s : Value) (P : Nat → Prop) (w : World) (h : (F.cons x k .nil).ok) (hl : k.flat.length ≤ 60) (hT : KidT w P k s) :
    Calls Try.prog 19 #[.agg #[.int .i64 x.k, .int .i64 x.n, s]] w fun e w' => ∃ s', e = .returned (.agg #[.int .i64 (rn (av [] (x :: k.flat)) x).k, .int .i64 (rn (av [] (x :: k.flat)) x).n, s']) ∧ KidT w' (fun g => w.heap.size ≤ g) (k.map (rn (av [] (x :: k.flat)))) s' ∧ Below w.heap.size w w' := by
  obtain ⟨g1, l1, o1, -⟩ : goodC x = true ∧ k.len = ar x.k ∧ k.ok ∧ F.nil.ok := h
  have hal := av_len (x :: k.flat) []
  obtain ⟨L, hL⟩ : ∃ L, L = av [] (x :: k.flat) := ⟨_, rfl⟩
  have HV := hide (fun (w' : World) (hb : Below w.heap.size w w') => l5Vars_any k x s (.slice none 0 0) [] P w' g1 l1 o1 (by simp; omega) (hT.below hb) ⟨.inl ⟨rfl, rfl⟩, fun _ => rfl⟩)
  have HR := hide (fun (w' : World) (so : Value) (hb : Below w.heap.size w w') (hI : IS w' so L) => l5Renamed_any k x s so L P w' g1 l1 o1 (fun q hq hk => by rw [hL]; exact av_mem _ _ q hq hk) (by rw [hL]; exact av_nodup _ List.nodup_nil) (by rw [hL]; simp at hal; omega) (hT.below hb) hI)
  rw [← hL] at HV ⊢
  obtain ⟨sad, sc, rfl⟩ := hT.form
  obtain ⟨KL, hKL⟩ : ∃ KL, KL = k.len := ⟨_, rfl⟩
  rw [← hKL] at HV HR ⊢
  clear hKL hL hT l1 hal
  obtain ⟨xk, xn⟩ := x
  simp only at *
  obtain ⟨zz, hzz⟩ : ∃ zz, zz = rn L ⟨xk, xn⟩ := ⟨_, rfl⟩
  obtain ⟨kk, hkk⟩ : ∃ kk, kk = k.map (rn L) := ⟨_, rfl⟩
  rw [← hzz, ← hkk] at HR ⊢
  clear hzz hkk
  go_enter Try.func19, Try.ntmps19
  go_wp2_with fail
  obtain ⟨w0, hw0⟩ : ∃ w0, w0 = (w.alloc (.cells #[.int .i64 xk, .int .i64 xn, .slice sad KL sc] 41)).alloc (.cells #[.int .i64 0, .int .i64 0, .slice none 0 0] 41) := ⟨_, rfl⟩
  have hB0 : Below w.heap.size w w0 := by rw [hw0]; exact ((Below.refl _ _).alloc (Nat.le_refl _) _).alloc (by simp) _
  have hbT : w0.heap[w.heap.size]? = some (.cells #[.int .i64 xk, .int .i64 xn, .slice sad KL sc] 41) := by rw [hw0, heap_alloc_old _ _ (by simp)]; exact heap_alloc_new _ _
  have hbR : w0.heap[w.heap.size + 1]? = some (.cells #[.int .i64 0, .int .i64 0, .slice none 0 0] 41) := by rw [hw0]; have := heap_alloc_new (w.alloc (.cells #[.int .i64 xk, .int .i64 xn, .slice sad KL sc] 41)) (.cells #[.int .i64 0, .int .i64 0, .slice none 0 0] 41); simpa using this
  have hsz0 : w0.heap.size = w.heap.size + 1 + 1 := by rw [hw0]; simp
  rw [← hw0]
  have e0 : w0.cell? ⟨w.heap.size, 0, none⟩ = some (.int .i64 xk) := (cell_of_blk hbT 0).trans rfl
  have e1 : w0.cell? ⟨w.heap.size, 1, none⟩ = some (.int .i64 xn) := (cell_of_blk hbT 1).trans rfl
  have e2 : w0.cell? ⟨w.heap.size, 2, none⟩ = some (.slice sad KL sc) := (cell_of_blk hbT 2).trans rfl
  have HB0 : Hid (Below w.heap.size w w0.drew) := hide (belowDrew hB0)
  have HbR := hide hbR
  clear hw0 hbT hbR hB0
  go_region_held3 (fun w' => w'.cell? ⟨w.heap.size, 0, none⟩ = some (.int .i64 xk) ∧ w'.cell? ⟨w.heap.size, 1, none⟩ = some (.int .i64 xn) ∧ w'.cell? ⟨w.heap.size, 2, none⟩ = some (.slice sad KL sc)) (go_keep)
    (first
      | (go_at_call 33; (with_reducible refine Calls.mono (HR.out _ _ HBa.out HIa.out) ?_); rintro e wb ⟨s5, rfl, hs5, hbb⟩; have HBb' := hide hbb; obtain ⟨pad, pc, rfl⟩ := hs5.form; have HS5 := hide hs5; clear hbb hs5; have hszb : wa.heap.size ≤ wb.heap.size := HBb'.out.size; have HBb := hide (HBa.out.trans (HBb'.out.mono HBa.out.size)); have fb0 : wb.cell? ⟨w.heap.size, 0, none⟩ = some (.int .i64 xk) := (HBb'.out.cell (p := ⟨w.heap.size, 0, none⟩) (show w.heap.size < wa.heap.size by omega)).trans fa0; have fb1 : wb.cell? ⟨w.heap.size, 1, none⟩ = some (.int .i64 xn) := (HBb'.out.cell (p := ⟨w.heap.size, 1, none⟩) (show w.heap.size < wa.heap.size by omega)).trans fa1; have fb2 : wb.cell? ⟨w.heap.size, 2, none⟩ = some (.slice sad KL sc) := (HBb'.out.cell (p := ⟨w.heap.size, 2, none⟩) (show w.heap.size < wa.heap.size by omega)).trans fa2; have hRb : wb.heap[w.heap.size + 1]? = some (.cells #[.int .i64 0, .int .i64 0, .slice none 0 0] 41) := (HBb'.out.block _ (show w.heap.size + 1 < wa.heap.size by omega)).trans ((HBa'.out.block _ (show w.heap.size + 1 < w0.heap.size by omega)).trans HbR.out); have HRb := hide hRb; have z0 : wb.cell? ⟨w.heap.size + 1, 0, none⟩ = some (.int .i64 0) := (cell_of_blk hRb 0).trans rfl; have z1 : wb.cell? ⟨w.heap.size + 1, 1, none⟩ = some (.int .i64 0) := (cell_of_blk hRb 1).trans rfl; have z2 : wb.cell? ⟨w.heap.size + 1, 2, none⟩ = some (.slice none 0 0) := (cell_of_blk hRb 2).trans rfl; have fz := unfrozen_of_blk hRb; clear hRb)
      | (go_at_call 34; (with_reducible refine Calls.mono (HV.out _ HB0.out) ?_); rintro e wa ⟨sv, rfl, hja, hba⟩; obtain ⟨vad, vc, rfl⟩ := hja.1.form; have HIa := hide hja.1; have HBa' := hide hba; clear hba hja; have hsza : w0.heap.size ≤ wa.heap.size := HBa'.out.size; have HBa := hide (HB0.out.trans (HBa'.out.mono HB0.out.size)); have fa0 : wa.cell? ⟨w.heap.size, 0, none⟩ = some (.int .i64 xk) := (HBa'.out.cell (p := ⟨w.heap.size, 0, none⟩) (show w.heap.size < w0.heap.size by omega)).trans e0; have fa1 : wa.cell? ⟨w.heap.size, 1, none⟩ = some (.int .i64 xn) := (HBa'.out.cell (p := ⟨w.heap.size, 1, none⟩) (show w.heap.size < w0.heap.size by omega)).trans e1; have fa2 : wa.cell? ⟨w.heap.size, 2, none⟩ = some (.slice sad KL sc) := (HBa'.out.cell (p := ⟨w.heap.size, 2, none⟩) (show w.heap.size < w0.heap.size by omega)).trans e2))
  all_goals
    go_wp2_with fail
    refine bodyPost_ret (v := .agg #[.int .i64 zz.k, .int .i64 zz.n, .slice pad kk.len pc]) (by simp [results, Try.results19, go_sem, *]) rfl ⟨_, rfl, ?_, ((HBb.out.setCell (p := ⟨w.heap.size + 1, 0, none⟩) (by simp) _).setCell (p := ⟨w.heap.size + 1, 1, none⟩) (by simp) _).setCell (p := ⟨w.heap.size + 1, 2, none⟩) (by simp) _⟩
    refine HS5.out.keep (by simp [World.setCell]) (fun g h1 h2 => ⟨?_, by have h3 : wa.heap.size ≤ g := h1; omega⟩)
    have h3 : wa.heap.size ≤ g := h1
    have hkn : g ≠ w.heap.size + 1 := by omega
    rw [Below.heap_setCell _ _ _ _ hkn, Below.heap_setCell _ _ _ _ hkn, Below.heap_setCell _ _ _ _ hkn]

set_option maxRecDepth 20000 in
set_option maxHeartbeats 2000000 in
theorem specTidy_any (ad : Option Addr) (c : Nat) (l : List Cc) (w : World) (hl : l.length ≤ 1048576) (h : CRow w ad l) :
    Calls Try.prog 6 #[.slice ad l.length c] w (RT w l) := by
  unfold RT
  have HC := hide (l5Tree_any ad c l w hl h)
  clear h
  cases hT : treeT l with
  | none =>
    have hg : goodT l = false := by unfold goodT; rw [hT]; rfl
    have HE : Hid (tdL l = []) := hide (by unfold tdL; rw [hg]; rfl)
    rw [hT] at HC
    rw [hg]
    clear hT hg
    go_enter Try.func6, Try.ntmps6
    go_wp2_with fail
    refine Calls.mono HC.out ?_
    rintro e w1 ⟨hb1, k, n, sad, sn, sc, rfl⟩
    go_wp2_with fail
    exact bodyPost_ret (v := .tuple #[.slice none 0 0, .bool false]) (by simp [results, Try.results6, go_sem]) rfl ⟨_, rfl, by rw [HE.out]; exact World.ownsRow_nil _ _ _ _, hb1.alloc hb1.size _⟩
  | some a =>
    have hg : goodT l = true := by unfold goodT; rw [hT]; rfl
    have HE : Hid (tdL l = tidy l) := hide (by unfold tdL; rw [hg]; rfl)
    obtain ⟨t1, t2, t3, t4, -⟩ := treeT_flat hT
    obtain ⟨x, k, rfl⟩ := F.len_1 t3
    have htd := (tidy_tree hT).1
    have hgt : goodT (tidy l) = true := by unfold goodT; rw [htd]; rfl
    have hlx : l = x :: k.flat := by rw [t1]; simp [F.flat]
    have htx : tidy l = rn (av [] l) x :: (k.map (rn (av [] l))).flat := by
      rw [map_flat]
      unfold tidy
      generalize rn (av [] l) = f
      rw [hlx]
      rfl
    rw [hT] at HC
    rw [hg]
    have hkf : k.flat.length ≤ 60 := by rw [hlx] at t4; simp at t4; omega
    have HD := hide (fun (s : Value) (w' : World) (h : KidT w' (fun g => w.heap.size ≤ g) k s) => l5Tidy_any x k s _ w' t2 hkf h)
    rw [← hlx] at HD
    have HG := hide (fun (ad : Option Addr) (c : Nat) (w : World) (h : CRow w ad (tidy l)) => specGoodT_any ad c (tidy l) w (by unfold tidy; simp; omega) h)
    rw [hgt] at HG
    have HTx := hide htx
    have hfl : (k.map (rn (av [] l))).flat.length + 1 ≤ 1048576 := by rw [map_flat]; simp; omega
    obtain ⟨zz, hzz⟩ : ∃ zz, zz = rn (av [] l) x := ⟨_, rfl⟩
    obtain ⟨kk, hkk⟩ : ∃ kk, kk = k.map (rn (av [] l)) := ⟨_, rfl⟩
    rw [← hzz, ← hkk] at HD HTx
    rw [← hkk] at hfl
    obtain ⟨TL, hTL⟩ : ∃ TL, TL = tidy l := ⟨_, rfl⟩
    rw [← hTL] at HE HG HTx
    clear hT hg hgt htd htx hlx t1 t2 t3 t4 hzz hkk hTL hkf
    go_enter Try.func6, Try.ntmps6
    go_wp2_with fail
    refine Calls.mono HC.out ?_
    rintro e w1 ⟨hb1, x', k', s1, he1, rfl, hT1⟩
    simp only [F.cons.injEq, and_true] at he1
    obtain ⟨rfl, rfl⟩ := he1
    have hB1a : Below w.heap.size w (w1.alloc (.cells #[.int .i64 x.k, .int .i64 x.n, s1] 41)) := hb1.alloc hb1.size _
    have HD1 := hide (HD.out s1 (w1.alloc (.cells #[.int .i64 x.k, .int .i64 x.n, s1] 41)) (hT1.below ((Below.refl _ _).alloc (Nat.le_refl _) _)))
    obtain ⟨sad, sc, rfl⟩ := hT1.form
    obtain ⟨KL, hKL⟩ : ∃ KL, KL = k.len := ⟨_, rfl⟩
    rw [← hKL] at HD1 hB1a ⊢
    clear hT1 HD HC hKL
    go_wp2_with fail
    refine Calls.mono HD1.out ?_
    rintro e w2 ⟨s2, rfl, hs2, hb2⟩
    have hB2 : Below w.heap.size w w2 := hB1a.trans (hb2.mono hB1a.size)
    have HF := hide (l5Flat_any kk zz s2 (.slice none 0 0) w.heap.size 0 [] _ w2 (fun g _ _ => by simp [Value.ownBlock]) (by omega) hB2.size hs2 (World.ownsRow_nil _ _ _ _))
    obtain ⟨pad, pc, rfl⟩ := hs2.form
    clear hs2 hb2 hB1a hb1
    go_wp2_with fail
    refine Calls.mono HF.out ?_
    rintro e w3 ⟨v3, rfl, ho3, hg3, -⟩
    rw [Nat.zero_add, List.nil_append, ← HTx.out] at ho3
    have hlen : kk.flat.length + 1 = TL.length := by rw [HTx.out]; simp
    rw [hlen] at ho3
    obtain ⟨ad3, c3, rfl, hlc3, hR3⟩ := cOwn_row ho3
    have HO3 := hide ho3
    have HR3 := hide hR3
    have hB3 : Below w.heap.size w w3 := hB2.trans ⟨hg3.os, hg3.tape, hg3.output, hg3.size, fun k hk => hg3.block k (by have := hB2.size; omega) (by simp [Value.ownBlock])⟩
    clear ho3 hR3 hg3 HF HD1
    go_wp2_with fail
    refine (HG.out _ _ _ HR3.out).mono ?_
    rintro e w4 ⟨rfl, hb4⟩
    have hB4 : Below w.heap.size w w4 := hB3.trans (hb4.mono hB3.size)
    have HO4 := hide (tOwn_keep HO3.out (fun k _ hk => hb4.block k hk))
    clear hb4
    go_wp2_with fail
    exact bodyPost_ret (v := .tuple #[.slice ad3 TL.length c3, .bool true]) (by simp [results, Try.results6, go_sem]) rfl ⟨_, rfl, by rw [HE.out]; exact HO4.out, hB4⟩
end Go.Proofs.Ytjffignbiabmaac.Y

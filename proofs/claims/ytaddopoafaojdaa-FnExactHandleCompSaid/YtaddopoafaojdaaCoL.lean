/-
  Trees with others in the place of each number told, and trees told, by the specification: contracts of l9Then, l9Tell. Conditions: trees of at most 1048576 cells. Written by wip/build/mk_col.py.
-/
import Derived.Test.YtaddopoafaojdaaCoA
import Derived.Test.YtaddopoafaojdaaCoH
import Derived.Test.YtaddopoafaojdaaCoF
import Derived.Deep.RegionHeld3
import Derived.Deep.CutRange
namespace Go.Proofs.Ytaddopoafaojdaa.C
open Go.Proofs.Ytaddopoafaojdaa.W
open Go.ChangeShapes Go.WideShapes Go.ChangeAt Go.RowKit
set_option linter.unusedVariables false

/-- A tree with others in the place of each number told. -/
def Tr.thn (f : Int → Tr) : Tr → Tr
  | .ret n => f n
  | .ask n a b => .ask n (a.thn f) (b.thn f)
theorem Tr.thn_flat (f : Int → Tr) (nx : Int → List Cc) (hf : ∀ n, 0 ≤ n → n ≤ 99 → nx n = (f n).flat) : ∀ t : Tr, t.ok → fol nx t.flat = (t.thn f).flat
  | .ret n, h => by
    have hn : 0 ≤ n ∧ n ≤ 99 := by simpa [Tr.ok, inB] using h
    show fo1 nx ⟨1, n⟩ ++ [] = (f n).flat
    rw [List.append_nil, ← hf n hn.1 hn.2]
    rfl
  | .ask n a b, h => by
    show fo1 nx ⟨2, n⟩ ++ fol nx (a.flat ++ b.flat) = ⟨2, n⟩ :: ((a.thn f).flat ++ (b.thn f).flat)
    rw [fol_app, Tr.thn_flat f nx hf a h.2.1, Tr.thn_flat f nx hf b h.2.2]
    rfl
theorem Tr.thn_ok (f : Int → Tr) (hf : ∀ n, 0 ≤ n → n ≤ 99 → (f n).ok) : ∀ t : Tr, t.ok → (t.thn f).ok
  | .ret n, h => by
    have hn : 0 ≤ n ∧ n ≤ 99 := by simpa [Tr.ok, inB] using h
    exact hf n hn.1 hn.2
  | .ask n a b, h => ⟨h.1, Tr.thn_ok f hf a h.2.1, Tr.thn_ok f hf b h.2.2⟩
theorem Tr.thn_len (f : Int → Tr) (m : Nat) (hm : 1 ≤ m) (hf : ∀ n, 0 ≤ n → n ≤ 99 → (f n).flat.length ≤ m) : ∀ t : Tr, t.ok → (t.thn f).flat.length ≤ t.flat.length * m
  | .ret n, h => by
    have hn : 0 ≤ n ∧ n ≤ 99 := by simpa [Tr.ok, inB] using h
    have := hf n hn.1 hn.2
    show (f n).flat.length ≤ 1 * m
    omega
  | .ask n a b, h => by
    have h1 := Tr.thn_len f m hm hf a h.2.1
    have h2 := Tr.thn_len f m hm hf b h.2.2
    show ((⟨2, n⟩ : Cc) :: ((a.thn f).flat ++ (b.thn f).flat)).length ≤ ((⟨2, n⟩ : Cc) :: (a.flat ++ b.flat)).length * m
    simp only [List.length_cons, List.length_append, Nat.add_mul]
    omega
/-- The tree with a number. -/
def tsF (ts : List Tr) (n : Int) : Tr := (ts[n.toNat]?).getD (.ret 0)
/-- A row of trees, all below lo. -/
def TsR (w : World) (lo : Nat) (s : Value) (ts : List Tr) : Prop := ∃ g cap, s = .slice (some ⟨g, 0, none⟩) ts.length cap ∧ g < lo ∧ lo ≤ w.heap.size ∧
    ∀ i (h : i < ts.length), ∃ (b : Bool) (n : Int) (a : Option Addr) (l c : Nat), w.cell? ⟨g, i * 3, none⟩ = some (.bool b) ∧ w.cell? ⟨g, i * 3 + 1, none⟩ = some (.int .i64 n) ∧ w.cell? ⟨g, i * 3 + 2, none⟩ = some (.slice a l c) ∧ CV w (fun k => k < lo) ts[i] (.agg #[.bool b, .int .i64 n, .slice a l c])
theorem TsR.below {w w' : World} {lo : Nat} {s : Value} {ts : List Tr} (h : TsR w lo s ts) (hb : Below w.heap.size w w') : TsR w' lo s ts := by
  obtain ⟨g, cap, e, hg, hl, h⟩ := h
  refine ⟨g, cap, e, hg, Nat.le_trans hl hb.size, fun i hi => ?_⟩
  obtain ⟨b, n, a, l, c, c0, c1, c2, hv⟩ := h i hi
  have hgw : g < w.heap.size := by omega
  exact ⟨b, n, a, l, c, (hb.cell (p := ⟨g, i * 3, none⟩) hgw).trans c0, (hb.cell (p := ⟨g, i * 3 + 1, none⟩) hgw).trans c1, (hb.cell (p := ⟨g, i * 3 + 2, none⟩) hgw).trans c2, hv.below hb⟩

set_option maxRecDepth 20000 in
set_option maxHeartbeats 2000000 in
theorem l9Tell_any (t : Tr) (u : Value) (P : Nat → Prop) (w : World) (hok : t.ok) (hl : t.flat.length ≤ 1048576) (hT : CV w P t u) :
    Calls Try.prog 19 #[u] w (RU2 w (if t.flat.length ≤ 60 then t.flat else []) (decide (t.flat.length ≤ 60))) := by
  unfold RU2
  obtain ⟨b, n, sad, sl, sc, rfl⟩ := hT.form
  obtain ⟨w0, hw0⟩ : ∃ w0, w0 = w.alloc (.cells #[.bool b, .int .i64 n, .slice sad sl sc] 44) := ⟨_, rfl⟩
  have hb0 : Below w.heap.size w w0 := by rw [hw0]; exact (Below.refl _ _).alloc (Nat.le_refl _) _
  have HF := hide (l9Flat_any t (.agg #[.bool b, .int .i64 n, .slice sad sl sc]) (.slice none 0 0) w0.heap.size 0 [] P w0 (fun g _ _ e => by cases e) (by omega) (Nat.le_refl _) (hT.below hb0) (World.ownsRow_nil _ _ _ _))
  have hbT : w0.heap[w.heap.size]? = some (.cells #[.bool b, .int .i64 n, .slice sad sl sc] 44) := by rw [hw0]; exact heap_alloc_new _ _
  have y0 : w0.cell? ⟨w.heap.size, 0, none⟩ = some (.bool b) := (cell_of_blk hbT 0).trans rfl
  have y1 : w0.cell? ⟨w.heap.size, 1, none⟩ = some (.int .i64 n) := (cell_of_blk hbT 1).trans rfl
  have y2 : w0.cell? ⟨w.heap.size, 2, none⟩ = some (.slice sad sl sc) := (cell_of_blk hbT 2).trans rfl
  have HW0 := hide hw0
  have HB0 := hide hb0
  have HGd : Hid (goodT t.flat = decide (t.flat.length ≤ 60)) := hide (by
    by_cases h : t.flat.length ≤ 60
    · rw [Tr.good hok h, decide_eq_true h]
    · rw [good_long h, decide_eq_false h])
  obtain ⟨FL, hFL⟩ : ∃ FL, FL = t.flat := ⟨_, rfl⟩
  rw [← hFL] at HF HGd hl ⊢
  clear hFL hw0 hb0 hT hbT hok
  go_enter Try.func19, Try.ntmps19
  go_upto_region 1 with fail
  rw [← HW0.out]
  clear HW0
  go_wp2_with fail
  refine Calls.mono HF.out ?_
  rintro e w1 ⟨v, rfl, ho, hgr, -⟩
  have hB1 : Below w.heap.size w w1 := HB0.out.grown hgr HB0.out.size (fun k hk => by cases hk)
  rw [Nat.zero_add, List.nil_append] at ho
  have HO := hide (iOwn_lower ho HB0.out.size)
  obtain ⟨va, vc, rfl, -, hrow⟩ := cOwn_row ho
  have HC := hide (specGoodT_any va vc FL w1 hl hrow)
  rw [HGd.out] at HC
  clear ho hgr hrow HF y0 y1 y2 HGd
  by_cases h6 : FL.length ≤ 60
  · rw [decide_eq_true h6] at HC
    have H6 := hide h6
    clear h6
    go_wp2_with fail
    refine Calls.mono HC.out ?_
    rintro e w2 ⟨rfl, hb2⟩
    have HO2 := hide (tOwn_keep HO.out (fun k _ hk => hb2.block k hk))
    have hB2 : Below w.heap.size w w2 := hB1.trans (hb2.mono hB1.size)
    clear HC hb2 HO
    go_wp2_with fail
    exact bodyPost_ret (v := .tuple #[.slice va FL.length vc, .bool true]) (by simp [results, Try.results19, go_sem]) rfl ⟨.slice va FL.length vc, (by first | rfl | rw [decide_eq_true H6.out]), (by first | exact HO2.out | (rw [if_pos H6.out]; exact HO2.out)), hB2⟩
  · rw [decide_eq_false h6] at HC
    have H6 := hide h6
    clear h6
    go_wp2_with fail
    refine Calls.mono HC.out ?_
    rintro e w2 ⟨rfl, hb2⟩
    have hB2 : Below w.heap.size w w2 := hB1.trans (hb2.mono hB1.size)
    clear HC hb2 HO
    go_wp2_with fail
    exact bodyPost_ret (v := .tuple #[.slice none 0 0, .bool false]) (by simp [results, Try.results19, go_sem]) rfl ⟨.slice none 0 0, (by first | rfl | rw [decide_eq_false H6.out]), (by first | exact World.ownsRow_nil _ _ _ _ | (rw [if_neg H6.out]; exact World.ownsRow_nil _ _ _ _)), hB2⟩
end Go.Proofs.Ytaddopoafaojdaa.C

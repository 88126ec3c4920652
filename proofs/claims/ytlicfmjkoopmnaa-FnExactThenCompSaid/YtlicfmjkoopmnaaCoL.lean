/-
  Trees with others in the place of each number told, and trees told, by the specification: contracts of l9Then, l9Tell. Conditions: trees of at most 1048576 cells. Written by wip/build/mk_col.py.
-/
import Derived.Test.YtlicfmjkoopmnaaCoA
import Derived.Test.YtlicfmjkoopmnaaCoH
import Derived.Test.YtlicfmjkoopmnaaCoF
import Derived.Deep.RegionHeld3
import Derived.Deep.CutRange
namespace Go.Proofs.Ytlicfmjkoopmnaa.C
open Go.Proofs.Ytlicfmjkoopmnaa.W
open Go.ChangeShapes Go.WideShapes Go.ChangeAt Go.RowKit
set_option linter.unusedVariables false

/-- A tree with others in the place of each number told. -/
def Tr.thn (f : Int → Tr) : Tr → Tr
  | .ret n => f n
  | .ask n a b => .ask n (a.thn f) (b.thn f)
theorem Tr.thn_flat (f : Int → Tr) (nx : Int → List Cc) (hf : ∀ n, 0 ≤ n → n ≤ 99 → nx n = (f n).flat) : ∀ t : Tr, t.ok → fol nx t.flat = (t.thn f).flat
  | .ret n, h => by
    have hn : 0 ≤ n ∧ n ≤ 99 := by simpa [Tr.ok, inB] using h
    show fo1 nx ⟨1, n⟩ ++ [] = (f n).flat
    rw [List.append_nil, ← hf n hn.1 hn.2]
    rfl
  | .ask n a b, h => by
    show fo1 nx ⟨2, n⟩ ++ fol nx (a.flat ++ b.flat) = ⟨2, n⟩ :: ((a.thn f).flat ++ (b.thn f).flat)
    rw [fol_app, Tr.thn_flat f nx hf a h.2.1, Tr.thn_flat f nx hf b h.2.2]
    rfl
theorem Tr.thn_ok (f : Int → Tr) (hf : ∀ n, 0 ≤ n → n ≤ 99 → (f n).ok) : ∀ t : Tr, t.ok → (t.thn f).ok
  | .ret n, h => by
    have hn : 0 ≤ n ∧ n ≤ 99 := by simpa [Tr.ok, inB] using h
    exact hf n hn.1 hn.2
  | .ask n a b, h => ⟨h.1, Tr.thn_ok f hf a h.2.1, Tr.thn_ok f hf b h.2.2⟩
theorem Tr.thn_len (f : Int → Tr) (m : Nat) (hm : 1 ≤ m) (hf : ∀ n, 0 ≤ n → n ≤ 99 → (f n).flat.length ≤ m) : ∀ t : Tr, t.ok → (t.thn f).flat.length ≤ t.flat.length * m
  | .ret n, h => by
    have hn : 0 ≤ n ∧ n ≤ 99 := by simpa [Tr.ok, inB] using h
    have := hf n hn.1 hn.2
    show (f n).flat.length ≤ 1 * m
    omega
  | .ask n a b, h => by
    have h1 := Tr.thn_len f m hm hf a h.2.1
    have h2 := Tr.thn_len f m hm hf b h.2.2
    show ((⟨2, n⟩ : Cc) :: ((a.thn f).flat ++ (b.thn f).flat)).length ≤ ((⟨2, n⟩ : Cc) :: (a.flat ++ b.flat)).length * m
    simp only [List.length_cons, List.length_append, Nat.add_mul]
    omega
/-- The tree with a number. -/
def tsF (ts : List Tr) (n : Int) : Tr := (ts[n.toNat]?).getD (.ret 0)
/-- A row of trees, all below lo. -/
def TsR (w : World) (lo : Nat) (s : Value) (ts : List Tr) : Prop := ∃ g cap, s = .slice (some ⟨g, 0, none⟩) ts.length cap ∧ g < lo ∧ lo ≤ w.heap.size ∧
    ∀ i (h : i < ts.length), ∃ (b : Bool) (n : Int) (a : Option Addr) (l c : Nat), w.cell? ⟨g, i * 3, none⟩ = some (.bool b) ∧ w.cell? ⟨g, i * 3 + 1, none⟩ = some (.int .i64 n) ∧ w.cell? ⟨g, i * 3 + 2, none⟩ = some (.slice a l c) ∧ CV w (fun k => k < lo) ts[i] (.agg #[.bool b, .int .i64 n, .slice a l c])
theorem TsR.below {w w' : World} {lo : Nat} {s : Value} {ts : List Tr} (h : TsR w lo s ts) (hb : Below w.heap.size w w') : TsR w' lo s ts := by
  obtain ⟨g, cap, e, hg, hl, h⟩ := h
  refine ⟨g, cap, e, hg, Nat.le_trans hl hb.size, fun i hi => ?_⟩
  obtain ⟨b, n, a, l, c, c0, c1, c2, hv⟩ := h i hi
  have hgw : g < w.heap.size := by omega
  exact ⟨b, n, a, l, c, (hb.cell (p := ⟨g, i * 3, none⟩) hgw).trans c0, (hb.cell (p := ⟨g, i * 3 + 1, none⟩) hgw).trans c1, (hb.cell (p := ⟨g, i * 3 + 2, none⟩) hgw).trans c2, hv.below hb⟩

def ThenGoal (t : Tr) : Prop := ∀ (u : Value) (P : Nat → Prop) (w : World) (lo : Nat) (s : Value) (ts : List Tr), t.ok → ts.length = 100 → CV w P t u → TsR w lo s ts →
    Calls Try.prog 52 #[u, s] w fun e w' => ∃ v, e = .returned v ∧ CV w' (fun g => g < lo ∨ w.heap.size ≤ g) (t.thn (tsF ts)) v ∧ Below w.heap.size w w'

set_option maxRecDepth 20000 in
set_option maxHeartbeats 4000000 in
theorem l9Then_any : ∀ t, ThenGoal t := by
  intro t
  induction t with
  | ret xn =>
    intro u P w lo s ts hok h100 hT hts
    obtain rfl : u = .agg #[.bool false, .int .i64 xn, .slice none 0 0] := hT
    have h1 : 0 ≤ xn ∧ xn ≤ 99 := by simpa [Tr.ok, inB] using hok
    obtain ⟨h1, h2⟩ := h1
    obtain ⟨m, rfl⟩ : ∃ m : Nat, xn = (m : Int) := ⟨xn.toNat, by omega⟩
    have hm : m < ts.length := by omega
    have hm' : (m : Int) < (ts.length : Int) := by omega
    obtain ⟨g, cap, rfl, hg, hlo, hc⟩ := hts
    obtain ⟨b, n, a, l, c, c0, c1, c2, hv⟩ := hc m hm
    have HE : Hid ((Tr.ret (m : Int)).thn (tsF ts) = ts[m]) := hide (by show tsF ts (m : Int) = _; unfold tsF; rw [Int.toNat_natCast, List.getElem?_eq_getElem hm]; rfl)
    rw [HE.out]
    obtain ⟨w0, hw0⟩ : ∃ w0, w0 = (w.alloc (.cells #[.bool false, .int .i64 (m : Int), .slice none 0 0] 62)).alloc (.cells #[.bool false, .int .i64 0, .slice none 0 0] 62) := ⟨_, rfl⟩
    have hB0 : Below w.heap.size w w0 := by rw [hw0]; exact ((Below.refl _ _).alloc (Nat.le_refl _) _).alloc (by simp) _
    have hbT : w0.heap[w.heap.size]? = some (.cells #[.bool false, .int .i64 (m : Int), .slice none 0 0] 62) := by rw [hw0, heap_alloc_old _ _ (by simp)]; exact heap_alloc_new _ _
    have hbR : w0.heap[w.heap.size + 1]? = some (.cells #[.bool false, .int .i64 0, .slice none 0 0] 62) := by
      rw [hw0]
      have := heap_alloc_new (w.alloc (.cells #[.bool false, .int .i64 (m : Int), .slice none 0 0] 62)) (.cells #[.bool false, .int .i64 0, .slice none 0 0] 62)
      simpa using this
    have hgw : g < w.heap.size := by omega
    have x0 := (hB0.cell (p := ⟨g, m * 3, none⟩) hgw).trans c0
    have x1 := (hB0.cell (p := ⟨g, m * 3 + 1, none⟩) hgw).trans c1
    have x2 := (hB0.cell (p := ⟨g, m * 3 + 2, none⟩) hgw).trans c2
    have y0 : w0.cell? ⟨w.heap.size, 0, none⟩ = some (.bool false) := (cell_of_blk hbT 0).trans rfl
    have y1 : w0.cell? ⟨w.heap.size, 1, none⟩ = some (.int .i64 (m : Int)) := (cell_of_blk hbT 1).trans rfl
    have z0 : w0.cell? ⟨w.heap.size + 1, 0, none⟩ = some (.bool false) := (cell_of_blk hbR 0).trans rfl
    have z1 : w0.cell? ⟨w.heap.size + 1, 1, none⟩ = some (.int .i64 0) := (cell_of_blk hbR 1).trans rfl
    have z2 : w0.cell? ⟨w.heap.size + 1, 2, none⟩ = some (.slice none 0 0) := (cell_of_blk hbR 2).trans rfl
    have zf := unfrozen_of_blk hbR
    have HW0 := hide hw0
    have HV := hide (hv.below hB0)
    have HbR := hide hbR
    have HB0 := hide hB0
    have hsz : w0.heap.size = w.heap.size + 1 + 1 := by rw [hw0]; simp
    have HSz := hide hsz
    clear hok hw0 hsz hv c0 c1 c2 hc hbT hbR hB0 HE h100
    go_enter Try.func52, Try.ntmps52
    go_upto_region 1 with fail
    rw [← HW0.out]
    clear HW0
    go_wp2_with fail
    have hR := set3_at HbR.out (.bool b) (.int .i64 n) (.slice a l c)
    have r0 := (cell_of_blk hR 0).trans rfl
    have r1 := (cell_of_blk hR 1).trans rfl
    have r2 := (cell_of_blk hR 2).trans rfl
    refine bodyPost_ret (v := .agg #[.bool b, .int .i64 n, .slice a l c]) (by simp [results, Try.results52, go_sem, r0, r1, r2]) rfl ⟨_, rfl, ?_, ?_⟩
    · refine HV.out.keep (by show _ ≤ (set3 w0 (w.heap.size + 1) (.bool b) (.int .i64 n) (.slice a l c)).heap.size; rw [set3_size]; exact Nat.le_refl _) (fun k h1 h2 => ?_)
      have h1' : k < lo := h1
      exact ⟨set3_ne _ _ _ _ _ (by omega), .inl h1'⟩
    · exact below_set3 HB0.out (by omega) _ _ _
  | ask xn a b iha ihb =>
    intro u P w lo s ts hok h100 hT hts
    have HTs := hide hts
    obtain ⟨tg, tcap, es, htg, hlo, -⟩ := hts
    subst es
    obtain ⟨g, cap, ba, na, sa, bb, nb, sb, rfl, hP, hg, c0, c1, c2, c3, c4, c5, h1, h2⟩ := hT
    obtain ⟨aad, al, ac, ea⟩ : ∃ aad al ac, sa = .slice aad al ac := by obtain ⟨_, _, ad, l, c, e⟩ := h1.form; simp at e; exact ⟨_, _, _, e.2.2⟩
    obtain ⟨bad, bl, bc, eb⟩ : ∃ bad bl bc, sb = .slice bad bl bc := by obtain ⟨_, _, ad, l, c, e⟩ := h2.form; simp at e; exact ⟨_, _, _, e.2.2⟩
    subst ea eb
    obtain ⟨w0, hw0⟩ : ∃ w0, w0 = (w.alloc (.cells #[.bool true, .int .i64 xn, .slice (some ⟨g, 0, none⟩) 2 cap] 62)).alloc (.cells #[.bool false, .int .i64 0, .slice none 0 0] 62) := ⟨_, rfl⟩
    have hB0 : Below w.heap.size w w0 := by rw [hw0]; exact ((Below.refl _ _).alloc (Nat.le_refl _) _).alloc (by simp) _
    have hbT : w0.heap[w.heap.size]? = some (.cells #[.bool true, .int .i64 xn, .slice (some ⟨g, 0, none⟩) 2 cap] 62) := by rw [hw0, heap_alloc_old _ _ (by simp)]; exact heap_alloc_new _ _
    have hbR : w0.heap[w.heap.size + 1]? = some (.cells #[.bool false, .int .i64 0, .slice none 0 0] 62) := by
      rw [hw0]
      have := heap_alloc_new (w.alloc (.cells #[.bool true, .int .i64 xn, .slice (some ⟨g, 0, none⟩) 2 cap] 62)) (.cells #[.bool false, .int .i64 0, .slice none 0 0] 62)
      simpa using this
    have hsz0 : w0.heap.size = w.heap.size + 1 + 1 := by rw [hw0]; simp
    have HW0 := hide hw0
    have HSz := hide hsz0
    have HAll : Hid (∀ w', Below w0.heap.size w0 w' → w'.cell? ⟨w.heap.size, 1, none⟩ = some (.int .i64 xn) ∧ w'.cell? ⟨w.heap.size, 2, none⟩ = some (.slice (some ⟨g, 0, none⟩) 2 cap) ∧ w'.cell? ⟨g, 0, none⟩ = some (.bool ba) ∧ w'.cell? ⟨g, 1, none⟩ = some (.int .i64 na) ∧ w'.cell? ⟨g, 2, none⟩ = some (.slice aad al ac) ∧ w'.cell? ⟨g, 3, none⟩ = some (.bool bb) ∧ w'.cell? ⟨g, 4, none⟩ = some (.int .i64 nb) ∧ w'.cell? ⟨g, 5, none⟩ = some (.slice bad bl bc)) := hide (fun w' hb => by
      have hgw : g < w0.heap.size := by omega
      have hww : w.heap.size < w0.heap.size := by omega
      exact ⟨(hb.cell (p := ⟨w.heap.size, 1, none⟩) hww).trans ((cell_of_blk hbT 1).trans rfl), (hb.cell (p := ⟨w.heap.size, 2, none⟩) hww).trans ((cell_of_blk hbT 2).trans rfl),
        (hb.cell (p := ⟨g, 0, none⟩) hgw).trans ((hB0.cell (p := ⟨g, 0, none⟩) hg).trans c0), (hb.cell (p := ⟨g, 1, none⟩) hgw).trans ((hB0.cell (p := ⟨g, 1, none⟩) hg).trans c1), (hb.cell (p := ⟨g, 2, none⟩) hgw).trans ((hB0.cell (p := ⟨g, 2, none⟩) hg).trans c2),
        (hb.cell (p := ⟨g, 3, none⟩) hgw).trans ((hB0.cell (p := ⟨g, 3, none⟩) hg).trans c3), (hb.cell (p := ⟨g, 4, none⟩) hgw).trans ((hB0.cell (p := ⟨g, 4, none⟩) hg).trans c4), (hb.cell (p := ⟨g, 5, none⟩) hgw).trans ((hB0.cell (p := ⟨g, 5, none⟩) hg).trans c5)⟩)
    have HWB0 : Hid (Below w0.heap.size w0 w0.drew) := hide (belowDrew (Below.refl _ _))
    have HBw : Hid (Below w.heap.size w w0) := hide hB0
    have HbR := hide hbR
    have H1 := hide (h1.below hB0)
    have H2 := hide (h2.below hB0)
    have HIa := hide (fun u P w' h h2 => iha u P w' lo (.slice (some ⟨tg, 0, none⟩) ts.length tcap) ts hok.2.1 h100 h h2)
    have HIb := hide (fun u P w' h h2 => ihb u P w' lo (.slice (some ⟨tg, 0, none⟩) ts.length tcap) ts hok.2.2 h100 h h2)
    have HTw : Hid (∀ w', Below w0.heap.size w0 w' → TsR w' lo (.slice (some ⟨tg, 0, none⟩) ts.length tcap) ts) := hide (fun w' hb => HTs.out.below (hB0.trans (hb.mono hB0.size)))
    have hlR : w.heap.size + 1 < w0.heap.size := by omega
    have HSet : Hid (∀ (w' : World) (x y z : Value) (B : Obj), Below w0.heap.size w0 w' → ((set3 w' (w.heap.size + 1) x y z).alloc B).cell? ⟨w.heap.size, 1, none⟩ = some (.int .i64 xn) ∧ ((set3 w' (w.heap.size + 1) x y z).alloc B).cell? ⟨w.heap.size, 2, none⟩ = some (.slice (some ⟨g, 0, none⟩) 2 cap) ∧ ((set3 w' (w.heap.size + 1) x y z).alloc B).cell? ⟨g, 0, none⟩ = some (.bool ba) ∧ ((set3 w' (w.heap.size + 1) x y z).alloc B).cell? ⟨g, 1, none⟩ = some (.int .i64 na) ∧ ((set3 w' (w.heap.size + 1) x y z).alloc B).cell? ⟨g, 2, none⟩ = some (.slice aad al ac) ∧ ((set3 w' (w.heap.size + 1) x y z).alloc B).cell? ⟨g, 3, none⟩ = some (.bool bb) ∧ ((set3 w' (w.heap.size + 1) x y z).alloc B).cell? ⟨g, 4, none⟩ = some (.int .i64 nb) ∧ ((set3 w' (w.heap.size + 1) x y z).alloc B).cell? ⟨g, 5, none⟩ = some (.slice bad bl bc)) := hide (fun w' x y z B hb => by
      have hb2 : w0.heap.size ≤ w'.heap.size := hb.size
      have hS : ∀ k, k < w0.heap.size → k ≠ w.heap.size + 1 → ∀ o, ((set3 w' (w.heap.size + 1) x y z).alloc B).cell? ⟨k, o, none⟩ = w'.cell? ⟨k, o, none⟩ := fun k hk hn o => World.cell?_of_block (w := w') (a := ⟨k, o, none⟩) (by
        show ((set3 w' (w.heap.size + 1) x y z).alloc B).heap[k]? = w'.heap[k]?
        rw [heap_alloc_old _ _ (by rw [set3_size]; omega), set3_ne _ _ _ _ _ hn])
      obtain ⟨v0, v1, v2, v3, v4, v5, v6, v7⟩ := HAll.out w' hb
      have k1 : w.heap.size < w0.heap.size := by have := HSz.out; omega
      have k2 : g < w0.heap.size := by omega
      have k3 : g ≠ w.heap.size + 1 := by omega
      have k4 : w.heap.size ≠ w.heap.size + 1 := by omega
      exact ⟨(hS _ k1 k4 _).trans v0, (hS _ k1 k4 _).trans v1, (hS _ k2 k3 _).trans v2, (hS _ k2 k3 _).trans v3, (hS _ k2 k3 _).trans v4, (hS _ k2 k3 _).trans v5, (hS _ k2 k3 _).trans v6, (hS _ k2 k3 _).trans v7⟩)
    clear h100 HTs htg hok hsz0 hw0 hB0 hbT hbR h1 h2 iha ihb c0 c1 c2 c3 c4 c5
    go_enter Try.func52, Try.ntmps52
    go_wp2_with fail
    rw [← HW0.out]
    clear HW0
    obtain ⟨u0, u1, u2, u3, u4, u5, u6, u7⟩ := HAll.out w0.drew HWB0.out
    go_region_held3 (fun w' => w'.cell? ⟨w.heap.size, 1, none⟩ = some (.int .i64 xn) ∧ w'.cell? ⟨w.heap.size, 2, none⟩ = some (.slice (some ⟨g, 0, none⟩) 2 cap) ∧ w'.cell? ⟨g, 0, none⟩ = some (.bool ba) ∧ w'.cell? ⟨g, 1, none⟩ = some (.int .i64 na) ∧ w'.cell? ⟨g, 2, none⟩ = some (.slice aad al ac) ∧ w'.cell? ⟨g, 3, none⟩ = some (.bool bb) ∧ w'.cell? ⟨g, 4, none⟩ = some (.int .i64 nb) ∧ w'.cell? ⟨g, 5, none⟩ = some (.slice bad bl bc)) (first | (with_reducible exact HAll.out _ HWB0.out) | (with_reducible exact HAll.out _ HWB1.out) | (with_reducible exact HAll.out _ HWB2.out) | (with_reducible exact HAll.out _ HWB3.out) | (with_reducible exact HSet.out _ _ _ _ _ HWB2.out))
      (first
        | ((with_reducible refine Calls.mono (HIb.out _ _ _ (H2.out.below HWB1.out) (HTw.out _ HWB1.out)) ?_); rintro e W2 ⟨Wv2, rfl, hv, hx⟩; have HWB2 : Hid (Below w0.heap.size w0 W2) := hide (HWB1.out.trans (hx.mono HWB1.out.size)); have hs2 : W1.heap.size ≤ W2.heap.size := hx.size; have HV1_2 := hide (HV1.out.below hx); have HV2 := hide hv; obtain ⟨bb2, nb2, ad2, l2, cc2, rfl⟩ := hv.form; have HWB3 : Hid (Below w0.heap.size w0 (W2.alloc (.cells #[.bool bb1, .int .i64 nb1, .slice ad1 l1 cc1, .bool bb2, .int .i64 nb2, .slice ad2 l2 cc2] 62))) := hide (HWB2.out.alloc HWB2.out.size _); have hzr : W2.heap[w.heap.size + 1]? = some (.cells #[.bool false, .int .i64 0, .slice none 0 0] 62) := (HWB2.out.block (w.heap.size + 1) hlR).trans HbR.out; have zr0 : W2.cell? ⟨w.heap.size + 1, 0, none⟩ = some (.bool false) := (cell_of_blk hzr 0).trans rfl; have zr1 : W2.cell? ⟨w.heap.size + 1, 1, none⟩ = some (.int .i64 0) := (cell_of_blk hzr 1).trans rfl; have zr2 : W2.cell? ⟨w.heap.size + 1, 2, none⟩ = some (.slice none 0 0) := (cell_of_blk hzr 2).trans rfl; have zrf := unfrozen_of_blk hzr; have HZr := hide hzr; have hlW : w.heap.size + 1 < W2.heap.size := Nat.lt_of_lt_of_le hlR HWB2.out.size; have hnW : ¬ w.heap.size + 1 = W2.heap.size := (by omega); have hnW' : ¬ W2.heap.size = w.heap.size + 1 := (by omega); have hzA : ∀ B : Obj, (W2.alloc B).heap[w.heap.size + 1]? = some (.cells #[.bool false, .int .i64 0, .slice none 0 0] 62) := (fun B => (heap_alloc_old _ _ hlW).trans hzr); have za0 : ∀ B : Obj, (W2.alloc B).cell? ⟨w.heap.size + 1, 0, none⟩ = some (.bool false) := (fun B => (cell_of_blk (hzA B) 0).trans rfl); have za1 : ∀ B : Obj, (W2.alloc B).cell? ⟨w.heap.size + 1, 1, none⟩ = some (.int .i64 0) := (fun B => (cell_of_blk (hzA B) 1).trans rfl); have za2 : ∀ B : Obj, (W2.alloc B).cell? ⟨w.heap.size + 1, 2, none⟩ = some (.slice none 0 0) := (fun B => (cell_of_blk (hzA B) 2).trans rfl); have zaf : ∀ (B : Obj) i, (W2.alloc B).frozen? ⟨w.heap.size + 1, i, none⟩ = false := (fun B => unfrozen_of_blk (hzA B)); have HZA := hide hzA; clear hv hx hzr hzA)
        | ((with_reducible refine Calls.mono (HIa.out _ _ _ (H1.out.below HWB0.out) (HTw.out _ HWB0.out)) ?_); rintro e W1 ⟨Wv1, rfl, hv, hx⟩; have HWB1 : Hid (Below w0.heap.size w0 W1) := hide (HWB0.out.trans (hx.mono HWB0.out.size)); have HV1 := hide hv; have hs1 : w0.heap.size ≤ W1.heap.size := hx.size; obtain ⟨bb1, nb1, ad1, l1, cc1, rfl⟩ := hv.form; clear hv hx))
    all_goals
      clear u0 u1 u2 u3 u4 u5 u6 u7 zr0 zr1 zr2 zrf za0 za1 za2 zaf
      go_wp2_with fail
      have hR : ((set3 W2 (w.heap.size + 1) (.bool true) (.int .i64 xn) (.slice (some ⟨W2.heap.size, 0, none⟩) 2 2)).alloc (.cells #[.bool bb1, .int .i64 nb1, .slice ad1 l1 cc1, .bool bb2, .int .i64 nb2, .slice ad2 l2 cc2] 62)).heap[w.heap.size + 1]? = some (.cells #[.bool true, .int .i64 xn, .slice (some ⟨W2.heap.size, 0, none⟩) 2 2] 62 (0, 0)) := (heap_alloc_old _ _ (by rw [set3_size]; exact hlW)).trans (set3_at HZr.out _ _ _)
      have hG : ((set3 W2 (w.heap.size + 1) (.bool true) (.int .i64 xn) (.slice (some ⟨W2.heap.size, 0, none⟩) 2 2)).alloc (.cells #[.bool bb1, .int .i64 nb1, .slice ad1 l1 cc1, .bool bb2, .int .i64 nb2, .slice ad2 l2 cc2] 62)).heap[W2.heap.size]? = some (.cells #[.bool bb1, .int .i64 nb1, .slice ad1 l1 cc1, .bool bb2, .int .i64 nb2, .slice ad2 l2 cc2] 62 (0, 0)) := by
        have := heap_alloc_new (set3 W2 (w.heap.size + 1) (.bool true) (.int .i64 xn) (.slice (some ⟨W2.heap.size, 0, none⟩) 2 2)) (.cells #[.bool bb1, .int .i64 nb1, .slice ad1 l1 cc1, .bool bb2, .int .i64 nb2, .slice ad2 l2 cc2] 62)
        rw [set3_size] at this
        exact this
      have r0 := (cell_of_blk hR 0).trans rfl
      have r1 := (cell_of_blk hR 1).trans rfl
      have r2 := (cell_of_blk hR 2).trans rfl
      have hk : ∀ k, k ≠ w.heap.size + 1 → k < W2.heap.size → ((set3 W2 (w.heap.size + 1) (.bool true) (.int .i64 xn) (.slice (some ⟨W2.heap.size, 0, none⟩) 2 2)).alloc (.cells #[.bool bb1, .int .i64 nb1, .slice ad1 l1 cc1, .bool bb2, .int .i64 nb2, .slice ad2 l2 cc2] 62)).heap[k]? = W2.heap[k]? := fun k hn hlt => (heap_alloc_old _ _ (by rw [set3_size]; exact hlt)).trans (set3_ne _ _ _ _ _ hn)
      have hss : W2.heap.size ≤ ((set3 W2 (w.heap.size + 1) (.bool true) (.int .i64 xn) (.slice (some ⟨W2.heap.size, 0, none⟩) 2 2)).alloc (.cells #[.bool bb1, .int .i64 nb1, .slice ad1 l1 cc1, .bool bb2, .int .i64 nb2, .slice ad2 l2 cc2] 62)).heap.size := by simp [World.setCell]
      refine bodyPost_ret (v := .agg #[.bool true, .int .i64 xn, .slice (some ⟨W2.heap.size, 0, none⟩) 2 2]) (by simp [results, Try.results52, go_sem, r0, r1, r2]) rfl ⟨_, rfl, ?_, ?_⟩
      · have hz := HSz.out
        refine CV.pair hG (.inr (by omega)) ?_ ?_
        · exact HV1_2.out.keep hss (fun k h1 h2 => by have h1' : k < lo ∨ w0.heap.size ≤ k := h1; exact ⟨hk k (by omega) h2, by omega⟩)
        · exact HV2.out.keep hss (fun k h1 h2 => by have h1' : k < lo ∨ W1.heap.size ≤ k := h1; exact ⟨hk k (by omega) h2, by omega⟩)
      · have hb1 : Below w.heap.size w W2 := HBw.out.trans (HWB2.out.mono HBw.out.size)
        exact (below_set3 hb1 (by omega) _ _ _).alloc (by rw [set3_size]; exact hb1.size) _

set_option maxRecDepth 20000 in
set_option maxHeartbeats 2000000 in
theorem l9Tell_any (t : Tr) (u : Value) (P : Nat → Prop) (w : World) (hok : t.ok) (hl : t.flat.length ≤ 1048576) (hT : CV w P t u) :
    Calls Try.prog 49 #[u] w (RU2 w (if t.flat.length ≤ 60 then t.flat else []) (decide (t.flat.length ≤ 60))) := by
  unfold RU2
  obtain ⟨b, n, sad, sl, sc, rfl⟩ := hT.form
  obtain ⟨w0, hw0⟩ : ∃ w0, w0 = w.alloc (.cells #[.bool b, .int .i64 n, .slice sad sl sc] 62) := ⟨_, rfl⟩
  have hb0 : Below w.heap.size w w0 := by rw [hw0]; exact (Below.refl _ _).alloc (Nat.le_refl _) _
  have HF := hide (l9Flat_any t (.agg #[.bool b, .int .i64 n, .slice sad sl sc]) (.slice none 0 0) w0.heap.size 0 [] P w0 (fun g _ _ e => by cases e) (by omega) (Nat.le_refl _) (hT.below hb0) (World.ownsRow_nil _ _ _ _))
  have hbT : w0.heap[w.heap.size]? = some (.cells #[.bool b, .int .i64 n, .slice sad sl sc] 62) := by rw [hw0]; exact heap_alloc_new _ _
  have y0 : w0.cell? ⟨w.heap.size, 0, none⟩ = some (.bool b) := (cell_of_blk hbT 0).trans rfl
  have y1 : w0.cell? ⟨w.heap.size, 1, none⟩ = some (.int .i64 n) := (cell_of_blk hbT 1).trans rfl
  have y2 : w0.cell? ⟨w.heap.size, 2, none⟩ = some (.slice sad sl sc) := (cell_of_blk hbT 2).trans rfl
  have HW0 := hide hw0
  have HB0 := hide hb0
  have HGd : Hid (goodT t.flat = decide (t.flat.length ≤ 60)) := hide (by
    by_cases h : t.flat.length ≤ 60
    · rw [Tr.good hok h, decide_eq_true h]
    · rw [good_long h, decide_eq_false h])
  obtain ⟨FL, hFL⟩ : ∃ FL, FL = t.flat := ⟨_, rfl⟩
  rw [← hFL] at HF HGd hl ⊢
  clear hFL hw0 hb0 hT hbT hok
  go_enter Try.func49, Try.ntmps49
  go_upto_region 1 with fail
  rw [← HW0.out]
  clear HW0
  go_wp2_with fail
  refine Calls.mono HF.out ?_
  rintro e w1 ⟨v, rfl, ho, hgr, -⟩
  have hB1 : Below w.heap.size w w1 := HB0.out.grown hgr HB0.out.size (fun k hk => by cases hk)
  rw [Nat.zero_add, List.nil_append] at ho
  have HO := hide (iOwn_lower ho HB0.out.size)
  obtain ⟨va, vc, rfl, -, hrow⟩ := cOwn_row ho
  have HC := hide (specGoodT_any va vc FL w1 hl hrow)
  rw [HGd.out] at HC
  clear ho hgr hrow HF y0 y1 y2 HGd
  by_cases h6 : FL.length ≤ 60
  · rw [decide_eq_true h6] at HC
    have H6 := hide h6
    clear h6
    go_wp2_with fail
    refine Calls.mono HC.out ?_
    rintro e w2 ⟨rfl, hb2⟩
    have HO2 := hide (tOwn_keep HO.out (fun k _ hk => hb2.block k hk))
    have hB2 : Below w.heap.size w w2 := hB1.trans (hb2.mono hB1.size)
    clear HC hb2 HO
    go_wp2_with fail
    exact bodyPost_ret (v := .tuple #[.slice va FL.length vc, .bool true]) (by simp [results, Try.results49, go_sem]) rfl ⟨.slice va FL.length vc, (by first | rfl | rw [decide_eq_true H6.out]), (by first | exact HO2.out | (rw [if_pos H6.out]; exact HO2.out)), hB2⟩
  · rw [decide_eq_false h6] at HC
    have H6 := hide h6
    clear h6
    go_wp2_with fail
    refine Calls.mono HC.out ?_
    rintro e w2 ⟨rfl, hb2⟩
    have hB2 : Below w.heap.size w w2 := hB1.trans (hb2.mono hB1.size)
    clear HC hb2 HO
    go_wp2_with fail
    exact bodyPost_ret (v := .tuple #[.slice none 0 0, .bool false]) (by simp [results, Try.results49, go_sem]) rfl ⟨.slice none 0 0, (by first | rfl | rw [decide_eq_false H6.out]), (by first | exact World.ownsRow_nil _ _ _ _ | (rw [if_neg H6.out]; exact World.ownsRow_nil _ _ _ _)), hB2⟩
end Go.Proofs.Ytlicfmjkoopmnaa.C

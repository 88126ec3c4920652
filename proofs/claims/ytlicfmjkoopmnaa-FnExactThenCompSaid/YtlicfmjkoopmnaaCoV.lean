/-
  The contract of the specification's ThenComp. Conditions: at most 1048576 cells and rows.
-/
import Derived.Test.YtlicfmjkoopmnaaCoL
import Derived.Test.YtlicfmjkoopmnaaCoJ
import Derived.Test.YtlicfmjkoopmnaaCoS
namespace Go.Proofs.Ytlicfmjkoopmnaa.C
open Go.Proofs.Ytlicfmjkoopmnaa.W
open Go.ChangeShapes Go.WideShapes Go.ChangeAt Go.RowKit
set_option linter.unusedVariables false

/-- Trees as the cells of a row. -/
def TsC (w : World) (P : Nat → Prop) : List Tr → List Value → Prop
  | [], cs => cs = []
  | t :: ts, cs => ∃ (b : Bool) (n : Int) (a : Option Addr) (l c : Nat) (r : List Value), cs = .bool b :: .int .i64 n :: .slice a l c :: r ∧ CV w P t (.agg #[.bool b, .int .i64 n, .slice a l c]) ∧ TsC w P ts r
theorem TsC.keep {w w' : World} {P P' : Nat → Prop} (hs : w.heap.size ≤ w'.heap.size) (hk : ∀ k, P k → k < w.heap.size → w'.heap[k]? = w.heap[k]? ∧ P' k) : ∀ {ts : List Tr} {cs : List Value}, TsC w P ts cs → TsC w' P' ts cs
  | [], cs, h => h
  | t :: ts, cs, ⟨b, n, a, l, c, r, e, hv, h⟩ => ⟨b, n, a, l, c, r, e, hv.keep hs hk, TsC.keep hs hk h⟩
theorem TsC.snoc {w : World} {P : Nat → Prop} {t : Tr} {b : Bool} {n : Int} {a : Option Addr} {l c : Nat} (hv : CV w P t (.agg #[.bool b, .int .i64 n, .slice a l c])) : ∀ {ts : List Tr} {cs : List Value}, TsC w P ts cs → TsC w P (ts ++ [t]) (cs ++ [.bool b, .int .i64 n, .slice a l c])
  | [], cs, h => by
    obtain rfl : cs = [] := h
    exact ⟨b, n, a, l, c, [], rfl, hv, rfl⟩
  | t' :: ts, cs, ⟨b', n', a', l', c', r, e, hv', h⟩ => by
    subst e
    exact ⟨b', n', a', l', c', r ++ [.bool b, .int .i64 n, .slice a l c], rfl, hv', TsC.snoc hv h⟩
theorem TsC.at {w : World} {P : Nat → Prop} : ∀ {ts : List Tr} {cs : List Value}, TsC w P ts cs → ∀ i (h : i < ts.length), ∃ (b : Bool) (n : Int) (a : Option Addr) (l c : Nat), cs[i * 3]? = some (.bool b) ∧ cs[i * 3 + 1]? = some (.int .i64 n) ∧ cs[i * 3 + 2]? = some (.slice a l c) ∧ CV w P ts[i] (.agg #[.bool b, .int .i64 n, .slice a l c])
  | [], cs, h, i, hi => by simp at hi
  | t :: ts, cs, ⟨b, n, a, l, c, r, e, hv, h⟩, 0, hi => by subst e; exact ⟨b, n, a, l, c, rfl, rfl, rfl, hv⟩
  | t :: ts, cs, ⟨b, n, a, l, c, r, e, hv, h⟩, i + 1, hi => by
    subst e
    obtain ⟨b', n', a', l', c', e0, e1, e2, hv'⟩ := TsC.at h i (by simpa using hi)
    refine ⟨b', n', a', l', c', ?_, ?_, ?_, by simpa using hv'⟩
    · rw [show (i + 1) * 3 = i * 3 + 3 by omega]; exact e0
    · rw [show (i + 1) * 3 + 1 = (i * 3 + 1) + 3 by omega]; exact e1
    · rw [show (i + 1) * 3 + 2 = (i * 3 + 2) + 3 by omega]; exact e2
theorem thn_model {l : List Cc} {L : List (List Cc)} {t : Tr} {ts : List Tr} (ht : t.ok) (hl : l = t.flat) (hL : ts.map Tr.flat = L) (h100 : L.length = 100) : fol (nxL L) l = (t.thn (tsF ts)).flat := by
  subst hl hL
  refine Tr.thn_flat _ _ (fun n h0 h1 => ?_) t ht
  have hn : n.toNat < ts.length := by simp at h100; omega
  unfold nxL tsF
  rw [List.getElem?_map, List.getElem?_eq_getElem hn]
  rfl
theorem tsF_mem {ts : List Tr} (h100 : ts.length = 100) (n : Int) (h0 : 0 ≤ n) (h1 : n ≤ 99) : tsF ts n ∈ ts := by
  have hn : n.toNat < ts.length := by omega
  unfold tsF
  rw [List.getElem?_eq_getElem hn]
  exact List.getElem_mem hn

set_option maxRecDepth 20000 in
set_option maxHeartbeats 4000000 in
theorem specThen_any (ad : Option Addr) (c : Nat) (l : List Cc) (qa : Option Addr) (qc : Nat) (L : List (List Cc)) (w : World) (hl : l.length ≤ 1048576) (h : CRow w ad l) (hs : QSm L) (hq : QRow w qa L) :
    Calls Try.prog 25 #[.slice ad l.length c, .slice qa L.length qc] w (RU2 w (thL l L) (thB l L)) := by
  unfold RU2
  have hLl := hs.1
  have HS := hide hs.2
  have HQ := hide hq
  by_cases hg : goodT l = true
  · obtain ⟨t, ht, hlt, h6, htr⟩ := good_tr hg
    have HC := hide (l9Tree_tr ad c l w hl h t htr)
    by_cases h100 : L.length = 100
    · have HG : Hid (thG l L = L.all goodT) := hide (by unfold thG; rw [hg, h100]; rfl)
      have H1 := hide h100
      have HTm := hide (fun (ts : List Tr) (hL : ts.map Tr.flat = L) => thn_model ht hlt hL h100)
      have HTo := hide ht
      have HT6 : Hid (t.flat.length ≤ 60) := hide (by rw [← hlt]; exact h6)
      obtain ⟨i0, hi0, hz0, hz1, hz2⟩ := infoPartsT infoT
      have Hi := hide hi0
      have h100' : (L.length : Int) = 100 := by omega
      clear hg hs hq h hlt ht htr h6 h100 hi0
      go_enter Try.func25, Try.ntmps25
      go_wp2_with fail
      refine Calls.mono HC.out ?_
      rintro e w1 ⟨hb1, v, rfl, hT⟩
      obtain ⟨xb, xn, xa, xl, xc, rfl⟩ := hT.form
      obtain ⟨w2, hw2⟩ : ∃ w2, w2 = w1.alloc (.cells #[.bool xb, .int .i64 xn, .slice xa xl xc] 62) := ⟨_, rfl⟩
      have hb2 : Below w1.heap.size w1 w2 := by rw [hw2]; exact (Below.refl _ _).alloc (Nat.le_refl _) _
      have HX := hide (hT.below hb2)
      have HB := hide (hb1.trans (hb2.mono hb1.size))
      have hbX : Bx w2 w1.heap.size #[.bool xb, .int .i64 xn, .slice xa xl xc] 62 := by rw [hw2]; exact Bx.new _ _ _
      have HBX := hide hbX
      have HW2 := hide hw2
      clear hb1 hb2 hw2 hbX hT HC
      go_upto_region 2 with fail
      rw [← HW2.out]
      clear HW2
      obtain ⟨XB, hXB⟩ : ∃ XB, XB = w1.heap.size := ⟨_, rfl⟩
      rw [← hXB] at HBX ⊢
      clear hXB
      go_wp2_with fail
      go_loopw [8, 27] (fun v i w' => ∃ (j : Nat) (ts : List Tr) (cs : List Value), j ≤ L.length ∧ i = .int .i64 j ∧ ts.map Tr.flat = L.take j ∧ (∀ t ∈ ts, t.ok ∧ t.flat.length ≤ 60) ∧ w'.ownsRow w2.heap.size 62 3 v j cs ∧ TsC w' (fun k => v.ownBlock ≠ some k) ts cs ∧ Below w2.heap.size w2 w') (fun _ i _ => L.length - (intOf i).toNat)
      case atStart => exact ⟨0, [], [], by omega, rfl, by simp, by simp, World.ownsRow_nil _ _ _ _, rfl, Below.refl _ _⟩
      case round =>
        obtain ⟨j, ts, cs, hj, rfl, hmap, hts, ho, hC, hB⟩ := hrel
        have HM := hide hmap
        have HTs := hide hts
        have HO := hide ho
        have HCs := hide hC
        have hlen : ts.length = j := by
          have := congrArg List.length hmap
          rw [List.length_map, List.length_take] at this
          omega
        have HLn := hide hlen
        obtain ⟨oa, oc, rfl⟩ := iOwn_form ho
        have hown : ∀ k, (Value.slice oa j oc).ownBlock = some k → w2.heap.size ≤ k ∧ k < wr.heap.size := fun k hk => ho.lt k hk
        have hBB : Below w.heap.size w wr := HB.out.trans (hB.mono HB.out.size)
        have hbs := hB.size
        clear hmap hts ho hC hlen
        by_cases hlt : j < L.length
        · have hlt' : (j : Int) < (L.length : Int) := by omega
          obtain ⟨b, o, v, rfl, hb, p0, pv⟩ := QRow.at HQ.out hBB hlt
          obtain ⟨a1, c1, rfl, pr, -⟩ := pv
          have hlj := HS.out _ (List.getElem_mem hlt)
          by_cases hgj : goodT L[j] = true
          · obtain ⟨y, hy, hly, hy6, htry⟩ := good_tr hgj
            have HTr := hide (l9Tree_tr a1 c1 L[j] wr hlj pr y htry)
            have HNew : Hid ((ts ++ [y]).map Tr.flat = L.take (j + 1)) := hide (by rw [List.map_append, HM.out, List.take_succ_eq_append_getElem hlt, hly]; rfl)
            have HNt : Hid (∀ t ∈ ts ++ [y], t.ok ∧ t.flat.length ≤ 60) := hide (fun t ht => by
              rcases List.mem_append.1 ht with h | h
              · exact HTs.out t h
              · rw [List.mem_singleton] at h; subst h; exact ⟨hy, by rw [← hly]; exact hy6⟩)
            obtain ⟨N, hN⟩ : ∃ N, N = L[j].length := ⟨_, rfl⟩
            rw [← hN] at p0 HTr
            clear hN pr hgj hly hy6 htry hlj hy
            go_wp2_with fail
            refine Calls.mono HTr.out ?_
            rintro e w3 ⟨hb3, v3, rfl, hT3⟩
            obtain ⟨yb, yn, ya, yl, yc, rfl⟩ := hT3.form
            have hs3 := hb3.size
            have HO3 := hide (tOwn_keep HO.out (fun k _ hk => hb3.block k hk))
            have HC3 := hide (HCs.out.keep (P' := fun k => (Value.slice oa j oc).ownBlock ≠ some k) hb3.size (fun k h1 h2 => ⟨hb3.block k h2, h1⟩))
            have HY3 := hide (hT3.weak (P' := fun k => (Value.slice oa j oc).ownBlock ≠ some k) (fun k h1 h2 e => by have h1' : wr.heap.size ≤ k := h1; have := hown k e; omega))
            have HB3 := hide (hB.trans (hb3.mono hB.size))
            have M1 : Hid (j + 1 ≤ maxLen) := hide (by unfold maxLen; omega)
            have HNw : Hid (∀ i u, [Value.bool yb, .int .i64 yn, .slice ya yl yc][i]? = some u → ((w3.alloc (.cells #[.bool yb, .int .i64 yn, .slice ya yl yc] 62)).alloc (.cells #[.bool yb, .int .i64 yn, .slice ya yl yc] 62)).cell? ((⟨w3.heap.size + 1, 0, none⟩ : Addr).add i) = some u) := hide (by
              intro i u hu
              have hh : ((w3.alloc (.cells #[.bool yb, .int .i64 yn, .slice ya yl yc] 62)).alloc (.cells #[.bool yb, .int .i64 yn, .slice ya yl yc] 62)).heap[w3.heap.size + 1]? = some (.cells #[.bool yb, .int .i64 yn, .slice ya yl yc] 62) := by
                have := heap_alloc_new (w3.alloc (.cells #[.bool yb, .int .i64 yn, .slice ya yl yc] 62)) (.cells #[.bool yb, .int .i64 yn, .slice ya yl yc] 62); simpa using this
              rw [iAdd, Nat.zero_add, cell_of_blk hh, ← hu]; simp)
            have HOne : Hid (∀ u ∈ [Value.bool yb, .int .i64 yn, .slice ya yl yc], u.oneCell' = true) := hide (by simp [Value.oneCell'])
            have hown3 : ∀ k, (Value.slice oa j oc).ownBlock = some k → w2.heap.size ≤ k := fun k hk => (hown k hk).1
            clear HTr hb3 hT3 HO HCs p0 hown
            go_wp2_with (at_builtin; refine wpList_append_sep rfl _ _ 60 rfl w2.heap.size 62 i0 (.agg #[.bool false, .int .i64 0, .slice none 0 0]) 3 40 Try.underlying60 Hi.out hz0 hz1 hz2 rfl (by decide) _ j cs rfl ((HO3.out.alloc _).alloc _) ⟨w3.heap.size + 1, 0, none⟩ 1 1 [.bool yb, .int .i64 yn, .slice ya yl yc] rfl rfl HNw.out HOne.out M1.out (by omega) (by simp; omega) ?_)
            intro v4 w4 hown4 hgrow4 hap4
            obtain ⟨a4, c4, rfl⟩ := iOwn_form hown4
            have HO4 := hide hown4
            have hA : ∀ k, k < w3.heap.size → (Value.slice oa j oc).ownBlock ≠ some k → (Value.slice a4 (j + 1) c4).ownBlock ≠ some k := fun k hk hne e => by
              rcases hap4 k e with h | h
              · exact hne h
              · simp at h; omega
            have hW : ∀ k, k < w3.heap.size → (Value.slice oa j oc).ownBlock ≠ some k → w4.heap[k]? = w3.heap[k]? := fun k hk hne => (hgrow4.block k (by simp; omega) (fun e => hne e.symm)).trans ((heap_alloc_old _ _ (by simp; omega)).trans (heap_alloc_old _ _ hk))
            have hsz4 : w3.heap.size ≤ w4.heap.size := by have := hgrow4.size; simp at this; omega
            have HC4 := hide (TsC.snoc (HY3.out.keep (P' := fun k => (Value.slice a4 (j + 1) c4).ownBlock ≠ some k) hsz4 (fun k h1 h2 => ⟨hW k h2 h1, hA k h2 h1⟩)) (HC3.out.keep (P' := fun k => (Value.slice a4 (j + 1) c4).ownBlock ≠ some k) hsz4 (fun k h1 h2 => ⟨hW k h2 h1, hA k h2 h1⟩)))
            have HB4 : Hid (Below w2.heap.size w2 w4) := hide (((HB3.out.alloc HB3.out.size _).alloc (by simp; omega) _).grown hgrow4 (by simp; omega) hown3)
            clear hown4 hgrow4 hap4 hA hW HO3 HC3 HY3 HB3 HNw HOne
            go_wp2_with fail
            exact ⟨⟨j + 1, ts ++ [y], cs ++ [.bool yb, .int .i64 yn, .slice ya yl yc], by omega, by go_num, HNew.out, HNt.out, HO4.out, HC4.out, HB4.out⟩, by simp [intOf]; omega⟩
          · rw [Bool.not_eq_true] at hgj
            have HTr := hide (l9Tree_bad a1 c1 L[j] wr hlj pr hgj)
            have HNo : Hid (thG l L = false) := hide (by
              rw [HG.out, Bool.eq_false_iff]
              intro hall
              have := List.all_eq_true.1 hall _ (List.getElem_mem hlt)
              rw [hgj] at this
              cases this)
            obtain ⟨N, hN⟩ : ∃ N, N = L[j].length := ⟨_, rfl⟩
            rw [← hN] at p0 HTr
            clear hN pr hgj hlj
            go_wp2_with fail
            refine Calls.mono HTr.out ?_
            rintro e w3 ⟨hb3, yb, yn, ya, yl, yc, rfl⟩
            have hB3 : Below w.heap.size w (w3.alloc (.cells #[.bool yb, .int .i64 yn, .slice ya yl yc] 62)) := (hBB.trans (hb3.mono hBB.size)).alloc (by have := hb3.size; have := hBB.size; omega) _
            clear HTr hb3 p0
            go_wp2_with fail
            exact bodyPost_ret (v := .tuple #[.slice none 0 0, .bool false]) (by simp [results, Try.results25, go_sem]) rfl ⟨.slice none 0 0, by unfold thB; rw [HNo.out]; rfl, by unfold thL; rw [HNo.out, if_neg (by simp)]; exact World.ownsRow_nil _ _ _ _, hB3⟩
        · obtain rfl : j = L.length := by omega
          have hmapL : ts.map Tr.flat = L := by have := HM.out; rwa [List.take_length] at this
          have h100 := H1.out
          have hl100 : ts.length = 100 := by rw [HLn.out]; exact h100
          have HYes : Hid (L.all goodT = true) := hide (by
            rw [← hmapL, List.all_eq_true]
            intro x hx
            obtain ⟨y, hy, rfl⟩ := List.mem_map.1 hx
            exact Tr.good (HTs.out y hy).1 (HTs.out y hy).2)
          have HEq := hide (HTm.out ts hmapL)
          have HTn : Hid ((t.thn (tsF ts)).ok) := hide (Tr.thn_ok _ (fun n a b => (HTs.out _ (tsF_mem hl100 n a b)).1) t HTo.out)
          have HTl : Hid ((t.thn (tsF ts)).flat.length ≤ 1048576) := hide (by
            have h1 := Tr.thn_len (tsF ts) 60 (by omega) (fun n a b => (HTs.out _ (tsF_mem hl100 n a b)).2) t HTo.out
            have h2 := HT6.out
            omega)
          obtain ⟨tg, tcap, etv, hg1, hg2, hcell⟩ := tOwn_lies HO.out (by omega)
          have HTsR : Hid (TsR wr wr.heap.size (.slice oa L.length oc) ts) := hide (by
            refine ⟨tg, tcap, by rw [HLn.out]; exact etv, hg2, Nat.le_refl _, fun i hi => ?_⟩
            obtain ⟨b, n, a, l, c, e0, e1, e2, hv⟩ := TsC.at HCs.out i hi
            exact ⟨b, n, a, l, c, hcell _ _ e0, hcell _ _ e1, hcell _ _ e2, hv.weak (fun k _ hk => hk)⟩)
          have HXr := hide (HX.out.below hB)
          have HTh := hide (l9Then_any t _ _ wr wr.heap.size _ ts HTo.out hl100 HXr.out HTsR.out)
          have HTe := hide (fun u P w' h => l9Tell_any (t.thn (tsF ts)) u P w' HTn.out HTl.out h)
          unfold RU2 at HTe
          rw [← HEq.out] at HTe
          have cX := (HBX.out.below hB HBX.out.lt).c
          obtain ⟨TT, hTT⟩ : ∃ TT, TT = t.thn (tsF ts) := ⟨_, rfl⟩
          rw [← hTT] at HTh HTe
          have HFe : Hid ((if (fol (nxL L) l).length ≤ 60 then fol (nxL L) l else []) = folL (nxL L) l) := hide rfl
          rw [HFe.out] at HTe
          obtain ⟨FL, hFL⟩ : ∃ FL, FL = folL (nxL L) l := ⟨_, rfl⟩
          obtain ⟨FB, hFB⟩ : ∃ FB, FB = decide ((fol (nxL L) l).length ≤ 60) := ⟨_, rfl⟩
          rw [← hFL, ← hFB] at HTe
          have HFL := hide hFL
          have HFB := hide hFB
          clear hFL hFB hTT hcell hg1 hg2 etv hmapL h100 hl100 HFe
          go_wp2_with fail
          refine Calls.mono HTh.out ?_
          rintro e w5 ⟨v5, rfl, hv5, hb5⟩
          obtain ⟨zb, zn, za, zl, zc, rfl⟩ := hv5.form
          have HT5 := hide (HTe.out _ _ _ hv5)
          have hB5 : Below w.heap.size w w5 := hBB.trans (hb5.mono hBB.size)
          clear hv5 hb5 HTh HTe cX
          go_wp2_with fail
          refine Calls.mono HT5.out ?_
          rintro e w6 ⟨v6, rfl, ho6, hb6⟩
          obtain ⟨va, vc, rfl⟩ := iOwn_form ho6
          have HO6 := hide (iOwn_lower ho6 hB5.size)
          have hB6 : Below w.heap.size w w6 := hB5.trans (hb6.mono hB5.size)
          clear ho6 hb6 HT5
          go_wp2_with fail
          exact bodyPost_ret (v := .tuple #[.slice va FL.length vc, .bool FB]) (by simp [results, Try.results25, go_sem]) rfl ⟨.slice va FL.length vc, by unfold thB; rw [HG.out, HYes.out, HFB.out, Bool.true_and], by unfold thL; rw [HG.out, HYes.out, if_pos rfl, ← HFL.out]; exact HO6.out, hB6⟩
    · have HNo : Hid (thG l L = false) := hide (by unfold thG; rw [decide_eq_false h100]; simp)
      have h100' : ¬ (L.length : Int) = 100 := by omega
      clear hg h100 hs hq h hlt htr
      go_enter Try.func25, Try.ntmps25
      go_wp2_with fail
      refine Calls.mono HC.out ?_
      rintro e w1 ⟨hb1, v, rfl, hT⟩
      obtain ⟨xb, xn, xa, xl, xc, rfl⟩ := hT.form
      have HB1 : Hid (Below w.heap.size w (w1.alloc (.cells #[.bool xb, .int .i64 xn, .slice xa xl xc] 62))) := hide (hb1.alloc hb1.size _)
      clear HC hb1 hT
      go_wp2_with fail
      exact bodyPost_ret (v := .tuple #[.slice none 0 0, .bool false]) (by simp [results, Try.results25, go_sem]) rfl ⟨.slice none 0 0, by unfold thB; rw [HNo.out]; rfl, by unfold thL; rw [HNo.out, if_neg (by simp)]; exact World.ownsRow_nil _ _ _ _, HB1.out⟩
  · rw [Bool.not_eq_true] at hg
    have HC := hide (l9Tree_bad ad c l w hl h hg)
    have HNo : Hid (thG l L = false) := hide (by unfold thG; rw [hg]; rfl)
    clear hg hs hq h
    go_enter Try.func25, Try.ntmps25
    go_wp2_with fail
    refine Calls.mono HC.out ?_
    rintro e w1 ⟨hb1, k, n, sad, sn, sc, rfl⟩
    have HB1 : Hid (Below w.heap.size w (w1.alloc (.cells #[.bool k, .int .i64 n, .slice sad sn sc] 62))) := hide (hb1.alloc hb1.size _)
    clear HC hb1
    go_wp2_with fail
    exact bodyPost_ret (v := .tuple #[.slice none 0 0, .bool false]) (by simp [results, Try.results25, go_sem]) rfl ⟨.slice none 0 0, by unfold thB; rw [HNo.out]; rfl, by unfold thL; rw [HNo.out, if_neg (by simp)]; exact World.ownsRow_nil _ _ _ _, HB1.out⟩
end Go.Proofs.Ytlicfmjkoopmnaa.C

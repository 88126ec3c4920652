/-
  The program's StepsOf. Conditions: at most 1048576 cells.
-/
import Derived.Test.YtbimfnnbfbfdoaaTeRg
import Derived.Test.YtbimfnnbfbfdoaaTeOo
import Derived.Maps.AppendAt
namespace Go.Proofs.Ytbimfnnbfbfdoaa.W
open Go.ChangeShapes Go.WideShapes Go.ChangeAt Go.RowKit Go.Shelf
set_option linter.unusedVariables false
attribute [local go_sem] Oper.semAt_some

theorem infoS : (Try.prog.info? 23).map (fun i => (i.zero, i.size, i.bytes)) = some (some (.slice none 0 0), 1, 24) := by kernel_rfl
theorem own_cells {W W' : World} {base n size : Nat} {e : TypeId} {v : Value} {xs : List Value} {row : Option Nat} (h : W.ownsRow base e size v n xs) (hg : W.grownBy W' row) (hr : ∀ r, row = some r → ∃ o : Obj, W.heap[r]? = some o ∧ o.isCells = false) : W'.ownsRow base e size v n xs := by
  rcases h.2 with h1 | ⟨g, cap, cur, rfl, h1, h2, h3⟩
  · exact ⟨h.1, .inl h1⟩
  · refine ⟨h.1, .inr ⟨g, cap, cur, rfl, h1, (hg.block g (Array.getElem?_eq_some_iff.1 h2).1 (fun e' => ?_)).trans h2, h3⟩⟩
    obtain ⟨o, ho, hc⟩ := hr g e'.symm
    rw [h2] at ho; cases ho; cases hc
theorem OOv.cells {W W' : World} {base : Nat} {v : Value} {L : List (List Cc)} {vs : List Value} {row : Option Nat} (h : OOv W base v L vs) (hg : W.grownBy W' row) (hr : ∀ r, row = some r → ∃ o : Obj, W.heap[r]? = some o ∧ o.isCells = false) : OOv W' base v L vs :=
  ⟨own_cells h.own hg hr, fun j hj => by obtain ⟨x, h1, h2⟩ := h.at_ j hj; exact ⟨x, h1, own_cells h2 hg hr⟩, h.far, h.apart⟩
theorem boxed_cells {W W' : World} {B : Nat} {t : TypeId} {v : Value} {row : Option Nat} (h : Boxed W B t v) (hg : W.grownBy W' row) (hr : ∀ r, row = some r → ∃ o : Obj, W.heap[r]? = some o ∧ o.isCells = false) : Boxed W' B t v :=
  h.kept hg (fun e' => by
    obtain ⟨o, ho, hc⟩ := hr B e'.symm
    rw [show W.heap[B]? = _ from h] at ho; cases ho; cases hc)
theorem tgd_some {c : Option (Cc × F)} {l : List Cc} (h : tgd c = some l) : rB (c.map fun p : Cc × F => p.1 :: p.2.flat) = true ∧ rL (c.map fun p : Cc × F => p.1 :: p.2.flat) = l := by
  unfold tgd at h
  split at h
  · cases h
  · rename_i p
    split at h
    · rename_i hg
      simp only [Option.some.injEq] at h
      subst h
      exact ⟨by simpa [rB] using hg, by simp [rL, gd, hg]⟩
    · cases h
theorem tgd_none {c : Option (Cc × F)} (h : tgd c = none) : rB (c.map fun p : Cc × F => p.1 :: p.2.flat) = false := by
  unfold tgd at h
  split at h
  · rfl
  · rename_i p
    split at h
    · cases h
    · rename_i hg
      simpa [rB] using hg

/-- What both sides tell of all steps. -/
def RT (w : World) (r : Option (List (List Cc))) (e : Ending) (w' : World) : Prop := ∃ s', e = .returned (.tuple #[s', .bool r.isSome]) ∧ OO w' w.heap.size s' (r.getD []) ∧ Below w.heap.size w w'

set_option maxRecDepth 100000 in
set_option maxHeartbeats 2000000 in
theorem implSteps_good (ad : Option Addr) (c : Nat) (l : List Cc) (x : Cc) (k : F) (w : World) (hl : l.length ≤ 1048576) (hc : l.length ≤ c) (ht : treeT l = some (.cons x k .nil)) (h : CRow w ad l) :
    Calls Try.prog 19 #[.slice ad l.length c] w fun e w' => RT w (stR l) e w' := by
  have hr : stR l = coll ((sh x k).map fun q => tgd q.2) := by unfold stR; rw [ht]
  have hg : goodT l = true := by unfold goodT; rw [ht]; rfl
  obtain ⟨e1, ho, -, e4, -⟩ := treeT_flat ht
  obtain ⟨g1, l1, o1, -⟩ := ho
  have hok : okT x k := ⟨g1, l1, o1⟩
  have e5 : l = x :: k.flat := by rw [e1]; simp [F.flat]
  obtain ⟨b, o, rfl, hrow⟩ : ∃ b o, ad = some ⟨b, o, none⟩ ∧ CRowAt w b o l := by
    rcases h with h0 | h0
    · rw [e5] at h0; cases h0
    · exact h0
  have HGd := hide (fun (w' : World) (hb : Below w.heap.size w w') => implGoodT_any (some ⟨b, o, none⟩) c l w' hl (h.below hb))
  rw [hg] at HGd
  rw [hr]
  obtain ⟨s1, s2⟩ := steps_one hok
  rw [← e5] at s1 s2
  have HO : ∀ i, i < l.length → RedOK (l.drop i) := fun i hi => by
    have := redOK_in (.cons x k .nil) [] i ⟨hok.1, hok.2.1, hok.2.2, trivial⟩ (by rw [e5] at hi; simpa [F.flat] using hi)
    rw [e5]; simpa [F.flat] using this
  obtain ⟨SH, hSH⟩ : ∃ SH, SH = sh x k := ⟨_, rfl⟩
  rw [← hSH] at s1 s2 ⊢
  have hxs : SH.attach.map (fun q : {q // q ∈ SH} => q.1.1) = pls l := by
    rw [s1]
    have : SH.attach.map (fun q : {q // q ∈ SH} => q.1.1) = (SH.attach.map Subtype.val).map Prod.fst := by rw [List.map_map]; rfl
    rw [this, List.attach_map_subtype_val]
  have hfs : SH.attach.map (fun q : {q // q ∈ SH} => tgd q.1.2) = SH.map (fun q => tgd q.2) := by
    have : SH.attach.map (fun q : {q // q ∈ SH} => tgd q.1.2) = (SH.attach.map Subtype.val).map (fun q => tgd q.2) := by rw [List.map_map]; rfl
    rw [this, List.attach_map_subtype_val]
  have HKA := hide (fun (q : {q // q ∈ SH}) (w' : World) (hb : Below w.heap.size w w') => contractedAt_any b o c l q.1.1 _ w' (s2 q.1 q.2) e4 hc (hrow.below hb))
  clear ht hr hg e1 g1 l1 o1 hok e5 h s1 s2 hSH
  refine (callsIn_wide (n := 6)).1 ?_
  refine callsIn_of_wp_marks Try.func19 rfl trivial ?_ rfl
  simp only [Try.ntmps19, List.size_toArray, List.length_cons, List.length_nil, Nat.reduceAdd, Nat.reduceSub, Array.replicate_succ, Array.replicate_zero, List.push_toArray, List.append_toArray, List.nil_append, List.cons_append]
  gi_wp2_with fail
  obtain ⟨SL, hSL⟩ : ∃ SL, SL = Value.slice (some ⟨b, o, none⟩) l.length c := ⟨_, rfl⟩
  have HSL := hide hSL
  obtain ⟨w3, hw3⟩ : ∃ w3, w3 = ((w.alloc (.cells #[.slice (some ⟨b, o, none⟩) l.length c] 23)).alloc (.cells #[.slice none 0 0] 40)).alloc (.cells #[.bool false] 4) := ⟨_, rfl⟩
  rw [← hw3]
  have hs3 : w3.heap.size = w.heap.size + 1 + 1 + 1 := by rw [hw3]; simp
  have hB3 : Below w.heap.size w w3 := by rw [hw3]; exact (((Below.refl _ w).alloc (Nat.le_refl _) _).alloc (by simp) _).alloc (by simp; omega) _
  have x0 : Boxed w3 w.heap.size 23 (.slice (some ⟨b, o, none⟩) l.length c) := by rw [hw3]; exact ((Boxed.new w _ _).alloc _).alloc _
  have x1 : Boxed w3 (w.heap.size + 1) 40 (.slice none 0 0) := by rw [hw3]; have := (Boxed.new (w.alloc (.cells #[.slice (some ⟨b, o, none⟩) l.length c] 23)) 40 (.slice none 0 0)).alloc (.cells #[.bool false] 4); simpa using this
  have x2 : Boxed w3 (w.heap.size + 1 + 1) 4 (.bool false) := by rw [hw3]; have := Boxed.new ((w.alloc (.cells #[.slice (some ⟨b, o, none⟩) l.length c] 23)).alloc (.cells #[.slice none 0 0] 40)) 4 (.bool false); simpa using this
  clear hw3
  refine ⟨trivial, (callsIn_wide.2 (HGd.out w3 hB3)).mono ?_⟩
  rintro e w4 ⟨rfl, hb4⟩
  have hB4 : Below w.heap.size w w4 := hB3.trans (hb4.mono hB3.size)
  have y0 : Boxed w4 w.heap.size 23 (.slice (some ⟨b, o, none⟩) l.length c) := (hb4.block _ x0.lt).trans x0
  have y1 : Boxed w4 (w.heap.size + 1) 40 (.slice none 0 0) := (hb4.block _ x1.lt).trans x1
  have y2 : Boxed w4 (w.heap.size + 1 + 1) 4 (.bool false) := (hb4.block _ x2.lt).trans x2
  have hs4 := hb4.size
  rw [hs3] at hs4
  have z0 := (y0.alloc (.cells #[.slice none 0 0] 40)).cell
  clear hb4 hB3 x0 x1 x2 hs3 HGd hSL
  gi_wp2_with (refine ⟨trivial, ?_⟩; gi_at_call 52; refine (callsIn_wide.2 (redexesIn_any _ _ _ _)).mono ?_; rintro e w' ⟨rfl, rfl⟩)
  obtain ⟨O, hO⟩ : ∃ O, O = w4.heap.size := ⟨_, rfl⟩
  obtain ⟨W0, hW0⟩ : ∃ W0, W0 = (w4.alloc (.cells #[.slice none 0 0] 40)).alloc (.cells #[.slice (some ⟨b, o, none⟩) l.length c] 23) := ⟨_, rfl⟩
  have hs0 : W0.heap.size = O + 1 + 1 := by rw [hW0, hO]; simp
  have hB0 : Below w.heap.size w W0 := by rw [hW0]; exact (hB4.alloc hB4.size _).alloc (by have := hB4.size; simp; omega) _
  have v0 : Boxed W0 w.heap.size 23 (.slice (some ⟨b, o, none⟩) l.length c) := by rw [hW0]; exact (y0.alloc _).alloc _
  have v1 : Boxed W0 (w.heap.size + 1) 40 (.slice none 0 0) := by rw [hW0]; exact (y1.alloc _).alloc _
  have v2 : Boxed W0 (w.heap.size + 1 + 1) 4 (.bool false) := by rw [hW0]; exact (y2.alloc _).alloc _
  have vO : Boxed W0 O 40 (.slice none 0 0) := by rw [hW0, hO]; exact (Boxed.new w4 _ _).alloc _
  have vB : Boxed W0 (O + 1) 23 (.slice (some ⟨b, o, none⟩) l.length c) := by rw [hW0, hO]; have := Boxed.new (w4.alloc (.cells #[.slice none 0 0] 40)) 23 (.slice (some ⟨b, o, none⟩) l.length c); simpa using this
  have hOw : w.heap.size + 1 + 1 + 1 ≤ O := by omega
  rw [← hW0, ← hO]
  clear y0 y1 y2 z0 hW0 hO hB4 hs4
  refine wpIn_rangeFunc_ownF rfl (by omega) (gf := 84) (lb := #[.pointer (some ⟨O + 1, 0, none⟩)]) rfl trivial (enters_of Try.func84 (by kernel_rfl) rfl)
    (redexes_stopsAt (fun q : {q // q ∈ SH} => q.1.1) SH.attach 5 (by omega) (O + 1) w.heap.size b o c l hl hc HO hxs W0 hrow.1 vB.lt hB0.size vB.cell (hrow.below hB0)) kpB_t (kpB_b hB0.size vB.lt) (Below.refl _ _) (fun _ => rfl)
    (fun pre W => (Boxed W w.heap.size 23 (.slice (some ⟨b, o, none⟩) l.length c) ∧ Boxed W (w.heap.size + 1) 40 (.slice none 0 0) ∧ Boxed W (w.heap.size + 1 + 1) 4 (.bool false) ∧ ∃ v L vs, coll (pre.map fun q : {q // q ∈ SH} => tgd q.1.2) = some L ∧ Boxed W O 40 v ∧ OOv W (O + 1 + 1) v L vs ∧ O + 1 + 1 ≤ W.heap.size) ∧ Below w.heap.size w W)
    (fun c pre W => (c = .ret ∧ coll (pre.map fun q : {q // q ∈ SH} => tgd q.1.2) = none ∧ Boxed W (w.heap.size + 1) 40 (.slice none 0 0) ∧ Boxed W (w.heap.size + 1 + 1) 4 (.bool false)) ∧ Below w.heap.size w W)
    (OwnFrom.and (Own.from (fun s A B row hs hg hr => by
      obtain ⟨h0, h1, h2, v, L, vs, h3, h4, h5, h6⟩ := hs
      exact ⟨boxed_cells h0 hg hr, boxed_cells h1 hg hr, boxed_cells h2 hg hr, v, L, vs, h3, boxed_cells h4 hg hr, h5.cells hg hr, Nat.le_trans h6 hg.size⟩) _) (ownFrom_below (Nat.le_refl _) hB0.size))
    (fun c => OwnFrom.and (Own.from (fun s A B row hs hg hr => ⟨hs.1, hs.2.1, boxed_cells hs.2.2.1 hg hr, boxed_cells hs.2.2.2 hg hr⟩) _) (ownFrom_below (Nat.le_refl _) hB0.size))
    ⟨⟨v0, v1, v2, _, [], [], rfl, vO, ⟨World.ownsRow_nil _ _ _ _, fun j hj => by simp at hj, fun j x k hx => by simp at hx, fun i j x y k _ hx => by simp at hx⟩, by omega⟩, hB0⟩
    (fun q => { tmps := #[.slice (some ⟨b, o, none⟩) l.length c, .pointer (some ⟨w.heap.size, 0, none⟩), .pointer (some ⟨w.heap.size + 1, 0, none⟩), .pointer (some ⟨w.heap.size + 1 + 1, 0, none⟩), .pointer (some ⟨O, 0, none⟩), .int .i64 (q.1.1 : Int), undef, undef, .slice (some ⟨b, o, none⟩) l.length c, .bool true, .bool false, .slice (some ⟨b, o, none⟩) l.length c, .func (.func 84) #[] #[.pointer (some ⟨O + 1, 0, none⟩)], .int .i64 (q.1.1 : Int), undef, undef, undef, undef, undef, undef, undef, undef, undef, undef, undef, undef, undef], defers := [] }) ?assign ?body ?done ?stop
  case assign =>
    intro y x W K hK
    gi_wp2
    exact hK
  case body =>
    rintro y pre q W ⟨⟨b0, b1, b2, v, L, vs, hL, bO, hOO, hbW⟩, hB⟩ hlt
    have u0 := b0.cell
    have hLl : L.length < 600 := by have := coll_len hL; rw [List.length_map] at this; omega
    have HOO := hide hOO
    have HL := hide hL
    have HKq := hide (HKA.out q W hB)
    obtain ⟨va, vc, rfl⟩ := iOwn_form hOO.own
    clear hOO hL HKA hxs hfs v0 v1 v2 vO vB
    gi_wp2_with fail
    refine ⟨trivial, (CallsIn.inRound y (callsIn_wide.2 HKq.out)).mono ?_⟩
    rintro e W1 ⟨s', rfl, hs', hb1⟩
    have hB1 : Below w.heap.size w W1 := hB.trans (hb1.mono hB.size)
    have hK1 : KeepsOthers W W1 := KeepsOthers.of_grownBy (grown_of hb1) (fun j o e => by cases e)
    have d1 : Boxed W1 (w.heap.size + 1) 40 (.slice none 0 0) := (hb1.block _ b1.lt).trans b1
    have d2 : Boxed W1 (w.heap.size + 1 + 1) 4 (.bool false) := (hb1.block _ b2.lt).trans b2
    have d0 : Boxed W1 w.heap.size 23 (.slice (some ⟨b, o, none⟩) l.length c) := (hb1.block _ b0.lt).trans b0
    have dO : Boxed W1 O 40 (.slice va L.length vc) := (hb1.block _ bO.lt).trans bO
    have t1 := d1.cell
    have t2 := d2.cell
    have f1 := d1.frozen
    have f2 := d2.frozen
    have tO := dO.cell
    have HHb := hide hb1
    clear b0 b1 b2 bO u0 hb1 HKq
    cases hq : tgd q.1.2 with
    | none =>
      rw [tgd_none hq] at *
      have HQ := hide hq
      obtain ⟨ma, mc, rfl⟩ := iOwn_form hs'
      clear hq hs'
      gi_wp2_with fail
      refine ⟨(hK1.trans (KeepsOthers.setCell _ _ _)).trans (KeepsOthers.setCell _ _ _), ⟨rfl, ?_, (d1.set _).kept (grownBy_setCell' _ _ _) (by simp), (d2.kept (grownBy_setCell' _ _ _) (by simp)).set _⟩, (hB1.setCell (p := ⟨w.heap.size + 1, 0, none⟩) (by simp) _).setCell (p := ⟨w.heap.size + 1 + 1, 0, none⟩) (by simp; omega) _⟩
      rw [List.map_append, List.map_singleton, coll_snoc, HL.out, HQ.out]
    | some m =>
      obtain ⟨hrb, hrl⟩ := tgd_some hq
      rw [hrl] at hs'
      rw [hrb]
      have HQ := hide hq
      have HS' := hide hs'
      obtain ⟨ma, mc, rfl⟩ := iOwn_form hs'
      clear hq hs' hrb hrl
      have hrow1 : W1.ownsRow (O + 1 + 1) 23 1 (.slice va L.length vc) L.length vs := tOwn_keep HOO.out.own (fun k _ hk => HHb.out.block k hk)
      obtain ⟨i0, hi, hz0, hz1, hz2⟩ := infoPartsT infoS
      have hW1 := HHb.out.size
      obtain ⟨LN, hLN⟩ : ∃ LN, LN = L.length := ⟨_, rfl⟩
      obtain ⟨MN, hMN⟩ : ∃ MN, MN = m.length := ⟨_, rfl⟩
      rw [← hLN] at hrow1 tO dO HOO hLl
      rw [← hMN] at HS' ⊢
      have HLN := hide hLN
      have HMN := hide hMN
      have HR1 := hide hrow1
      clear hLN hMN hrow1
      gi_wp2_with (gi_at_builtin; refine wpListIn_append_own _ rfl _ _ 40 rfl (O + 1 + 1) 23 i0 (.slice none 0 0) 1 24 Try.underlying40 hi hz0 hz1 hz2 rfl (by decide) _ _ _ rfl (HR1.out.alloc _) ⟨W1.heap.size, 0, none⟩ 1 1 [.slice ma MN mc] rfl rfl (cell_one_new _ _ _) (by simp [Value.oneCell']) (by unfold maxLen; omega) (by omega) (by simp; omega) ?_; intro v' w5 hown' hgrow _; obtain ⟨g', cap', rfl⟩ := ownsRow_succ hown'; obtain ⟨hv1, hv2, hr2, hk2, hb2⟩ := dO.appended (n₀ := w.heap.size) (by decide) (iOwn_lower HR1.out (by omega)) hB1.size (by omega) (iOwn_lower hown' (by omega)) hgrow; have hc1 := hv1.cell; have hf1 := hv1.frozen; have HOw := hide hown'; have HGr := hide hgrow; clear hown' hgrow)
      have hown := HOw.out
      have hgr := HGr.out
      have hrowlt : ∀ k, (Value.slice va LN vc).ownBlock = some k → O + 1 + 1 ≤ k := fun k hk => (HR1.out.lt k hk).1
      have hkp : ∀ k, k < O + 1 + 1 → k ≠ O → (w5.setCell ⟨O, 0, none⟩ (.slice (some ⟨g', 0, none⟩) (LN + 1) cap')).heap[k]? = W1.heap[k]? := fun k hk hne => by
        rw [Below.heap_setCell _ _ _ _ hne, hgr.block k (by simp; omega) (fun e => by have := hrowlt k e.symm; omega)]
        exact Below.heap_alloc _ _ _ (by omega)
      have hbl : Below W.heap.size W (W1.alloc (.cells #[.slice ma MN mc] 23)) := HHb.out.alloc hW1 _
      have hx1 : (W1.alloc (.cells #[.slice ma MN mc] 23)).ownsRow W.heap.size 70 2 (.slice ma MN mc) m.length (cv m) := (show W1.ownsRow W.heap.size 70 2 (.slice ma MN mc) m.length (cv m) from by have h := HS'.out; rw [HMN.out] at h ⊢; exact h).alloc _
      have hoo := HOO.out.snoc (by omega) hbl hx1 (by rw [← HLN.out]; exact hown) hgr
      obtain ⟨vs', hoo'⟩ := hoo.keep (w' := w5.setCell ⟨O, 0, none⟩ (.slice (some ⟨g', 0, none⟩) (LN + 1) cap')) (fun k hk _ => Below.heap_setCell _ _ _ _ (by simp; omega))
      refine ⟨hK1.trans hk2, ⟨(HHb.out.mono hB.size).trans hb2, ?_⟩, ⟨(hkp _ (by omega) (by omega)).trans d0, (hkp _ (by omega) (by omega)).trans d1, (hkp _ (by omega) (by omega)).trans d2, _, L ++ [m], vs', ?_, hv2, hoo', ?_⟩, hB1.trans hb2⟩
      · rw [hkp _ (by omega) (by omega)]
        exact HHb.out.block _ (by omega)
      · rw [List.map_append, List.map_singleton, coll_snoc, HL.out, HQ.out]
      · have := hgr.size
        simp at this ⊢
        omega
  case done =>
    rintro D ys W hD rfl ⟨⟨b0, b1, b2, v, L, vs, hL, bO, hOO, hbW⟩, hB⟩ hK
    have HOO := hide hOO
    have HL : Hid (coll (SH.map fun q => tgd q.2) = some L) := hide (by rw [← hfs]; exact hL)
    obtain ⟨va, vc, rfl⟩ := iOwn_form hOO.own
    have t1 := b1.cell
    have t2 := b2.cell
    have f1 := b1.frozen
    have f2 := b2.frozen
    have tO := bO.cell
    obtain ⟨N, hN⟩ : ∃ N, N = L.length := ⟨_, rfl⟩
    rw [← hN] at tO HOO
    have HNN := hide hN
    clear hN
    clear hOO hL v0 v1 v2 vO vB hxs hfs HKA bO
    gi_wp2
    have hK' := ((KeepsOthers.setCell W ⟨w.heap.size + 1, 0, none⟩ (.slice va N vc)).trans (KeepsOthers.setCell _ ⟨w.heap.size + 1 + 1, 0, none⟩ (.bool true))).same D _ hK rfl
    refine ⟨by simp, .inl ⟨_, _, rfl, run_takeDeferred hK', ?_⟩⟩
    have g0 : Boxed ((W.setCell ⟨w.heap.size + 1, 0, none⟩ (.slice va N vc)).setCell ⟨w.heap.size + 1 + 1, 0, none⟩ (.bool true)) (w.heap.size + 1) 40 (.slice va N vc) := (b1.set _).kept (grownBy_setCell' _ _ _) (by simp)
    have g1 : Boxed ((W.setCell ⟨w.heap.size + 1, 0, none⟩ (.slice va N vc)).setCell ⟨w.heap.size + 1 + 1, 0, none⟩ (.bool true)) (w.heap.size + 1 + 1) 4 (.bool true) := (b2.kept (grownBy_setCell' _ _ _) (by simp)).set _
    have e0 := cell_kept g0.cell (grownBy_putObj' _ D (.deferred none)) (fun r e => by cases e; exact ⟨_, hK', rfl⟩)
    have e1 := cell_kept g1.cell (grownBy_putObj' _ D (.deferred none)) (fun r e => by cases e; exact ⟨_, hK', rfl⟩)
    have hO5 := ((HOO.out.keep (w' := (W.setCell ⟨w.heap.size + 1, 0, none⟩ (.slice va N vc)).setCell ⟨w.heap.size + 1 + 1, 0, none⟩ (.bool true)) (fun k hk _ => by
      rw [Below.heap_setCell _ _ _ _ (by simp; omega), Below.heap_setCell _ _ _ _ (by simp; omega)])).cells (grownBy_putObj' _ D (.deferred none)) (fun r e => by cases e; exact ⟨_, hK', rfl⟩))
    refine ⟨.tuple #[.slice va N vc, .bool true], ?_, ?_⟩
    · simp [results, Try.results19, go_sem, e0, e1]
    · rw [HL.out]
      exact ⟨_, rfl, OO.lower ⟨_, hO5⟩ (by omega), ((hB.setCell (p := ⟨w.heap.size + 1, 0, none⟩) (by simp) _).setCell (p := ⟨w.heap.size + 1 + 1, 0, none⟩) (by simp; omega) _).trans (belowK_b (w := w) (Nat.le_refl _) _ D _ _ (by omega) hK' rfl rfl)⟩
  case stop =>
    rintro D c pre W hD hpre ⟨⟨rfl, hN, b1, b2⟩, hB⟩ hK
    have HN : coll (SH.map fun q => tgd q.2) = none := by
      rw [← hfs]
      obtain ⟨t, ht⟩ := hpre
      rw [← ht, List.map_append, coll_app, hN]
    gi_wp2
    refine ⟨by simp, .inl ⟨_, _, rfl, run_takeDeferred hK, ?_⟩⟩
    have e0 := cell_kept b1.cell (grownBy_putObj' _ D (.deferred none)) (fun r e => by cases e; exact ⟨_, hK, rfl⟩)
    have e1 := cell_kept b2.cell (grownBy_putObj' _ D (.deferred none)) (fun r e => by cases e; exact ⟨_, hK, rfl⟩)
    refine ⟨.tuple #[.slice none 0 0, .bool false], ?_, ?_⟩
    · simp [results, Try.results19, go_sem, e0, e1]
    · rw [HN]
      exact ⟨_, rfl, OO.nil _ _, hB.trans (belowK_b (w := w) (Nat.le_refl _) W D _ _ (by omega) hK rfl rfl)⟩

set_option maxHeartbeats 1000000 in
theorem implSteps_bad (ad : Option Addr) (c : Nat) (l : List Cc) (w : World) (hl : l.length ≤ 1048576) (hb : goodT l = false) (h : CRow w ad l) :
    Calls Try.prog 19 #[.slice ad l.length c] w fun e w' => RT w none e w' := by
  have HGd := hide (fun (w' : World) (hb : Below w.heap.size w w') => implGoodT_any ad c l w' hl (h.below hb))
  rw [hb] at HGd
  clear h hb
  go_enter Try.func19, Try.ntmps19
  go_wp2_with fail
  obtain ⟨w3, hw3⟩ : ∃ w3, w3 = ((w.alloc (.cells #[.slice ad l.length c] 23)).alloc (.cells #[.slice none 0 0] 40)).alloc (.cells #[.bool false] 4) := ⟨_, rfl⟩
  rw [← hw3]
  have hB3 : Below w.heap.size w w3 := by rw [hw3]; exact (((Below.refl _ w).alloc (Nat.le_refl _) _).alloc (by simp) _).alloc (by simp; omega) _
  have x1 : Boxed w3 (w.heap.size + 1) 40 (.slice none 0 0) := by rw [hw3]; have := (Boxed.new (w.alloc (.cells #[.slice ad l.length c] 23)) 40 (.slice none 0 0)).alloc (.cells #[.bool false] 4); simpa using this
  have x2 : Boxed w3 (w.heap.size + 1 + 1) 4 (.bool false) := by rw [hw3]; have := Boxed.new ((w.alloc (.cells #[.slice ad l.length c] 23)).alloc (.cells #[.slice none 0 0] 40)) 4 (.bool false); simpa using this
  clear hw3
  refine Calls.mono (HGd.out w3 hB3) ?_
  rintro e w4 ⟨rfl, hb4⟩
  have hB4 : Below w.heap.size w w4 := hB3.trans (hb4.mono hB3.size)
  have y1 : Boxed w4 (w.heap.size + 1) 40 (.slice none 0 0) := (hb4.block _ x1.lt).trans x1
  have y2 : Boxed w4 (w.heap.size + 1 + 1) 4 (.bool false) := (hb4.block _ x2.lt).trans x2
  have t1 := y1.cell
  have t2 := y2.cell
  have f1 := y1.frozen
  have f2 := y2.frozen
  have g0 : Boxed ((w4.setCell ⟨w.heap.size + 1, 0, none⟩ (.slice none 0 0)).setCell ⟨w.heap.size + 1 + 1, 0, none⟩ (.bool false)) (w.heap.size + 1) 40 (.slice none 0 0) := (y1.set _).kept (grownBy_setCell' _ _ _) (by simp)
  have g1 : Boxed ((w4.setCell ⟨w.heap.size + 1, 0, none⟩ (.slice none 0 0)).setCell ⟨w.heap.size + 1 + 1, 0, none⟩ (.bool false)) (w.heap.size + 1 + 1) 4 (.bool false) := (y2.kept (grownBy_setCell' _ _ _) (by simp)).set _
  have e0 := g0.cell
  have e1 := g1.cell
  clear hb4 hB3 x1 x2 HGd y1 y2 g0 g1
  go_wp2_with fail
  refine bodyPost_ret (v := .tuple #[.slice none 0 0, .bool false]) (by simp [results, Try.results19, go_sem, e0, e1]) rfl ?_
  exact ⟨_, rfl, OO.nil _ _, (hB4.setCell (p := ⟨w.heap.size + 1, 0, none⟩) (by simp) _).setCell (p := ⟨w.heap.size + 1 + 1, 0, none⟩) (by simp; omega) _⟩

theorem implSteps_any (ad : Option Addr) (c : Nat) (l : List Cc) (w : World) (hl : l.length ≤ 1048576) (hc : l.length ≤ c) (h : CRow w ad l) :
    Calls Try.prog 19 #[.slice ad l.length c] w fun e w' => RT w (stR l) e w' := by
  cases ht : treeT l with
  | none =>
    have hr : stR l = none := by unfold stR; rw [ht]
    rw [hr]
    exact implSteps_bad ad c l w hl (by unfold goodT; rw [ht]; rfl) h
  | some t =>
    obtain ⟨x, k, rfl⟩ := F.len_1 (treeT_flat ht).2.2.1
    exact implSteps_good ad c l x k w hl hc ht h
end Go.Proofs.Ytbimfnnbfbfdoaa.W

/-
  Some texts of this proof in one: TeSp, TeSr, DrE, TeLm.
-/
import Derived.Test.YtjmgnljjeogdlaaJaq
import Derived.Maps.AppendAt
import Derived.Test.YtjmgnljjeogdlaaJap
import Derived.Test.YtjmgnljjeogdlaaJad
import Derived.Test.YtjmgnljjeogdlaaJae
import Derived.Test.YtjmgnljjeogdlaaJao
import Derived.Test.YtjmgnljjeogdlaaJaf
/-
  The program's StepsOf. Conditions: at most 1048576 cells.
-/
namespace Go.Proofs.Ytjmgnljjeogdlaa.W
open Go.ChangeShapes Go.WideShapes Go.ChangeAt Go.RowKit Go.Shelf
set_option linter.unusedVariables false
attribute [local go_sem] Oper.semAt_some

theorem infoS : (Try.prog.info? 23).map (fun i => (i.zero, i.size, i.bytes)) = some (some (.slice none 0 0), 1, 24) := by kernel_rfl
theorem own_cells {W W' : World} {base n size : Nat} {e : TypeId} {v : Value} {xs : List Value} {row : Option Nat} (h : W.ownsRow base e size v n xs) (hg : W.grownBy W' row) (hr : ∀ r, row = some r → ∃ o : Obj, W.heap[r]? = some o ∧ o.isCells = false) : W'.ownsRow base e size v n xs := by
  rcases h.2 with h1 | ⟨g, cap, cur, rfl, h1, h2, h3⟩
  · exact ⟨h.1, .inl h1⟩
  · refine ⟨h.1, .inr ⟨g, cap, cur, rfl, h1, (hg.block g (Array.getElem?_eq_some_iff.1 h2).1 (fun e' => ?_)).trans h2, h3⟩⟩
    obtain ⟨o, ho, hc⟩ := hr g e'.symm
    rw [h2] at ho; cases ho; cases hc
theorem OOv.cells {W W' : World} {base : Nat} {v : Value} {L : List (List Cc)} {vs : List Value} {row : Option Nat} (h : OOv W base v L vs) (hg : W.grownBy W' row) (hr : ∀ r, row = some r → ∃ o : Obj, W.heap[r]? = some o ∧ o.isCells = false) : OOv W' base v L vs :=
  ⟨own_cells h.own hg hr, fun j hj => by obtain ⟨x, h1, h2⟩ := h.at_ j hj; exact ⟨x, h1, own_cells h2 hg hr⟩, h.far, h.apart⟩
theorem boxed_cells {W W' : World} {B : Nat} {t : TypeId} {v : Value} {row : Option Nat} (h : Boxed W B t v) (hg : W.grownBy W' row) (hr : ∀ r, row = some r → ∃ o : Obj, W.heap[r]? = some o ∧ o.isCells = false) : Boxed W' B t v :=
  h.kept hg (fun e' => by
    obtain ⟨o, ho, hc⟩ := hr B e'.symm
    rw [show W.heap[B]? = _ from h] at ho; cases ho; cases hc)
theorem tgd_some {c : Option (Cc × F)} {l : List Cc} (h : tgd c = some l) : rB (c.map fun p : Cc × F => p.1 :: p.2.flat) = true ∧ rL (c.map fun p : Cc × F => p.1 :: p.2.flat) = l := by
  unfold tgd at h
  split at h
  · cases h
  · rename_i p
    split at h
    · rename_i hg
      simp only [Option.some.injEq] at h
      subst h
      exact ⟨by simpa [rB] using hg, by simp [rL, gd, hg]⟩
    · cases h
theorem tgd_none {c : Option (Cc × F)} (h : tgd c = none) : rB (c.map fun p : Cc × F => p.1 :: p.2.flat) = false := by
  unfold tgd at h
  split at h
  · rfl
  · rename_i p
    split at h
    · cases h
    · rename_i hg
      simpa [rB] using hg

/-- What both sides tell of all steps. -/
def RT (w : World) (r : Option (List (List Cc))) (e : Ending) (w' : World) : Prop := ∃ s', e = .returned (.tuple #[s', .bool r.isSome]) ∧ OO w' w.heap.size s' (r.getD []) ∧ Below w.heap.size w w'

set_option maxRecDepth 100000 in
set_option maxHeartbeats 2000000 in
theorem implSteps_good (ad : Option Addr) (c : Nat) (l : List Cc) (x : Cc) (k : F) (w : World) (hl : l.length ≤ 1048576) (hc : l.length ≤ c) (ht : treeT l = some (.cons x k .nil)) (h : CRow w ad l) :
    Calls Try.prog 17 #[.slice ad l.length c] w fun e w' => RT w (stR l) e w' := by
  have hr : stR l = coll ((sh x k).map fun q => tgd q.2) := by unfold stR; rw [ht]
  have hg : goodT l = true := by unfold goodT; rw [ht]; rfl
  obtain ⟨e1, ho, -, e4, -⟩ := treeT_flat ht
  obtain ⟨g1, l1, o1, -⟩ := ho
  have hok : okT x k := ⟨g1, l1, o1⟩
  have e5 : l = x :: k.flat := by rw [e1]; simp [F.flat]
  obtain ⟨b, o, rfl, hrow⟩ : ∃ b o, ad = some ⟨b, o, none⟩ ∧ CRowAt w b o l := by
    rcases h with h0 | h0
    · rw [e5] at h0; cases h0
    · exact h0
  have HGd := hide (fun (w' : World) (hb : Below w.heap.size w w') => implGoodT_any (some ⟨b, o, none⟩) c l w' hl (h.below hb))
  rw [hg] at HGd
  rw [hr]
  obtain ⟨s1, s2⟩ := steps_one hok
  rw [← e5] at s1 s2
  have HO : ∀ i, i < l.length → RedOK (l.drop i) := fun i hi => by
    have := redOK_in (.cons x k .nil) [] i ⟨hok.1, hok.2.1, hok.2.2, trivial⟩ (by rw [e5] at hi; simpa [F.flat] using hi)
    rw [e5]; simpa [F.flat] using this
  obtain ⟨SH, hSH⟩ : ∃ SH, SH = sh x k := ⟨_, rfl⟩
  rw [← hSH] at s1 s2 ⊢
  have hxs : SH.attach.map (fun q : {q // q ∈ SH} => q.1.1) = pls l := by
    rw [s1]
    have : SH.attach.map (fun q : {q // q ∈ SH} => q.1.1) = (SH.attach.map Subtype.val).map Prod.fst := by rw [List.map_map]; rfl
    rw [this, List.attach_map_subtype_val]
  have hfs : SH.attach.map (fun q : {q // q ∈ SH} => tgd q.1.2) = SH.map (fun q => tgd q.2) := by
    have : SH.attach.map (fun q : {q // q ∈ SH} => tgd q.1.2) = (SH.attach.map Subtype.val).map (fun q => tgd q.2) := by rw [List.map_map]; rfl
    rw [this, List.attach_map_subtype_val]
  have HKA := hide (fun (q : {q // q ∈ SH}) (w' : World) (hb : Below w.heap.size w w') => contractedAt_any b o c l q.1.1 _ w' (s2 q.1 q.2) e4 hc (hrow.below hb))
  clear ht hr hg e1 g1 l1 o1 hok e5 h s1 s2 hSH
  refine (callsIn_wide (n := 6)).1 ?_
  refine callsIn_of_wp_marks Try.func17 rfl trivial ?_ rfl
  simp only [Try.ntmps17, List.size_toArray, List.length_cons, List.length_nil, Nat.reduceAdd, Nat.reduceSub, Array.replicate_succ, Array.replicate_zero, List.push_toArray, List.append_toArray, List.nil_append, List.cons_append]
  gi_wp2_with fail
  obtain ⟨SL, hSL⟩ : ∃ SL, SL = Value.slice (some ⟨b, o, none⟩) l.length c := ⟨_, rfl⟩
  have HSL := hide hSL
  obtain ⟨w3, hw3⟩ : ∃ w3, w3 = ((w.alloc (.cells #[.slice (some ⟨b, o, none⟩) l.length c] 23)).alloc (.cells #[.slice none 0 0] 40)).alloc (.cells #[.bool false] 4) := ⟨_, rfl⟩
  rw [← hw3]
  have hs3 : w3.heap.size = w.heap.size + 1 + 1 + 1 := by rw [hw3]; simp
  have hB3 : Below w.heap.size w w3 := by rw [hw3]; exact (((Below.refl _ w).alloc (Nat.le_refl _) _).alloc (by simp) _).alloc (by simp; omega) _
  have x0 : Boxed w3 w.heap.size 23 (.slice (some ⟨b, o, none⟩) l.length c) := by rw [hw3]; exact ((Boxed.new w _ _).alloc _).alloc _
  have x1 : Boxed w3 (w.heap.size + 1) 40 (.slice none 0 0) := by rw [hw3]; have := (Boxed.new (w.alloc (.cells #[.slice (some ⟨b, o, none⟩) l.length c] 23)) 40 (.slice none 0 0)).alloc (.cells #[.bool false] 4); simpa using this
  have x2 : Boxed w3 (w.heap.size + 1 + 1) 4 (.bool false) := by rw [hw3]; have := Boxed.new ((w.alloc (.cells #[.slice (some ⟨b, o, none⟩) l.length c] 23)).alloc (.cells #[.slice none 0 0] 40)) 4 (.bool false); simpa using this
  clear hw3
  refine ⟨trivial, (callsIn_wide.2 (HGd.out w3 hB3)).mono ?_⟩
  rintro e w4 ⟨rfl, hb4⟩
  have hB4 : Below w.heap.size w w4 := hB3.trans (hb4.mono hB3.size)
  have y0 : Boxed w4 w.heap.size 23 (.slice (some ⟨b, o, none⟩) l.length c) := (hb4.block _ x0.lt).trans x0
  have y1 : Boxed w4 (w.heap.size + 1) 40 (.slice none 0 0) := (hb4.block _ x1.lt).trans x1
  have y2 : Boxed w4 (w.heap.size + 1 + 1) 4 (.bool false) := (hb4.block _ x2.lt).trans x2
  have hs4 := hb4.size
  rw [hs3] at hs4
  have z0 := (y0.alloc (.cells #[.slice none 0 0] 40)).cell
  clear hb4 hB3 x0 x1 x2 hs3 HGd hSL
  gi_wp2_with (refine ⟨trivial, ?_⟩; gi_at_call 42; refine (callsIn_wide.2 (redexesIn_any _ _ _ _)).mono ?_; rintro e w' ⟨rfl, rfl⟩)
  obtain ⟨O, hO⟩ : ∃ O, O = w4.heap.size := ⟨_, rfl⟩
  obtain ⟨W0, hW0⟩ : ∃ W0, W0 = (w4.alloc (.cells #[.slice none 0 0] 40)).alloc (.cells #[.slice (some ⟨b, o, none⟩) l.length c] 23) := ⟨_, rfl⟩
  have hs0 : W0.heap.size = O + 1 + 1 := by rw [hW0, hO]; simp
  have hB0 : Below w.heap.size w W0 := by rw [hW0]; exact (hB4.alloc hB4.size _).alloc (by have := hB4.size; simp; omega) _
  have v0 : Boxed W0 w.heap.size 23 (.slice (some ⟨b, o, none⟩) l.length c) := by rw [hW0]; exact (y0.alloc _).alloc _
  have v1 : Boxed W0 (w.heap.size + 1) 40 (.slice none 0 0) := by rw [hW0]; exact (y1.alloc _).alloc _
  have v2 : Boxed W0 (w.heap.size + 1 + 1) 4 (.bool false) := by rw [hW0]; exact (y2.alloc _).alloc _
  have vO : Boxed W0 O 40 (.slice none 0 0) := by rw [hW0, hO]; exact (Boxed.new w4 _ _).alloc _
  have vB : Boxed W0 (O + 1) 23 (.slice (some ⟨b, o, none⟩) l.length c) := by rw [hW0, hO]; have := Boxed.new (w4.alloc (.cells #[.slice none 0 0] 40)) 23 (.slice (some ⟨b, o, none⟩) l.length c); simpa using this
  have hOw : w.heap.size + 1 + 1 + 1 ≤ O := by omega
  rw [← hW0, ← hO]
  clear y0 y1 y2 z0 hW0 hO hB4 hs4
  refine wpIn_rangeFunc_ownF rfl (by omega) (gf := 72) (lb := #[.pointer (some ⟨O + 1, 0, none⟩)]) rfl trivial (enters_of Try.func72 (by kernel_rfl) rfl)
    (redexes_stopsAt (fun q : {q // q ∈ SH} => q.1.1) SH.attach 5 (by omega) (O + 1) w.heap.size b o c l hl hc HO hxs W0 hrow.1 vB.lt hB0.size vB.cell (hrow.below hB0)) kpB_t (kpB_b hB0.size vB.lt) (Below.refl _ _) (fun _ => rfl)
    (fun pre W => (Boxed W w.heap.size 23 (.slice (some ⟨b, o, none⟩) l.length c) ∧ Boxed W (w.heap.size + 1) 40 (.slice none 0 0) ∧ Boxed W (w.heap.size + 1 + 1) 4 (.bool false) ∧ ∃ v L vs, coll (pre.map fun q : {q // q ∈ SH} => tgd q.1.2) = some L ∧ Boxed W O 40 v ∧ OOv W (O + 1 + 1) v L vs ∧ O + 1 + 1 ≤ W.heap.size) ∧ Below w.heap.size w W)
    (fun c pre W => (c = .ret ∧ coll (pre.map fun q : {q // q ∈ SH} => tgd q.1.2) = none ∧ Boxed W (w.heap.size + 1) 40 (.slice none 0 0) ∧ Boxed W (w.heap.size + 1 + 1) 4 (.bool false)) ∧ Below w.heap.size w W)
    (OwnFrom.and (Own.from (fun s A B row hs hg hr => by
      obtain ⟨h0, h1, h2, v, L, vs, h3, h4, h5, h6⟩ := hs
      exact ⟨boxed_cells h0 hg hr, boxed_cells h1 hg hr, boxed_cells h2 hg hr, v, L, vs, h3, boxed_cells h4 hg hr, h5.cells hg hr, Nat.le_trans h6 hg.size⟩) _) (ownFrom_below (Nat.le_refl _) hB0.size))
    (fun c => OwnFrom.and (Own.from (fun s A B row hs hg hr => ⟨hs.1, hs.2.1, boxed_cells hs.2.2.1 hg hr, boxed_cells hs.2.2.2 hg hr⟩) _) (ownFrom_below (Nat.le_refl _) hB0.size))
    ⟨⟨v0, v1, v2, _, [], [], rfl, vO, ⟨World.ownsRow_nil _ _ _ _, fun j hj => by simp at hj, fun j x k hx => by simp at hx, fun i j x y k _ hx => by simp at hx⟩, by omega⟩, hB0⟩
    (fun q => { tmps := #[.slice (some ⟨b, o, none⟩) l.length c, .pointer (some ⟨w.heap.size, 0, none⟩), .pointer (some ⟨w.heap.size + 1, 0, none⟩), .pointer (some ⟨w.heap.size + 1 + 1, 0, none⟩), .pointer (some ⟨O, 0, none⟩), .int .i64 (q.1.1 : Int), undef, undef, .slice (some ⟨b, o, none⟩) l.length c, .bool true, .bool false, .slice (some ⟨b, o, none⟩) l.length c, .func (.func 72) #[] #[.pointer (some ⟨O + 1, 0, none⟩)], .int .i64 (q.1.1 : Int), undef, undef, undef, undef, undef, undef, undef, undef, undef, undef, undef, undef, undef], defers := [] }) ?assign ?body ?done ?stop
  case assign =>
    intro y x W K hK
    gi_wp2
    exact hK
  case body =>
    rintro y pre q W ⟨⟨b0, b1, b2, v, L, vs, hL, bO, hOO, hbW⟩, hB⟩ hlt
    have u0 := b0.cell
    have hLl : L.length < 600 := by have := coll_len hL; rw [List.length_map] at this; omega
    have HOO := hide hOO
    have HL := hide hL
    have HKq := hide (HKA.out q W hB)
    obtain ⟨va, vc, rfl⟩ := iOwn_form hOO.own
    clear hOO hL HKA hxs hfs v0 v1 v2 vO vB
    gi_wp2_with fail
    refine ⟨trivial, (CallsIn.inRound y (callsIn_wide.2 HKq.out)).mono ?_⟩
    rintro e W1 ⟨s', rfl, hs', hb1⟩
    have hB1 : Below w.heap.size w W1 := hB.trans (hb1.mono hB.size)
    have hK1 : KeepsOthers W W1 := KeepsOthers.of_grownBy (grown_of hb1) (fun j o e => by cases e)
    have d1 : Boxed W1 (w.heap.size + 1) 40 (.slice none 0 0) := (hb1.block _ b1.lt).trans b1
    have d2 : Boxed W1 (w.heap.size + 1 + 1) 4 (.bool false) := (hb1.block _ b2.lt).trans b2
    have d0 : Boxed W1 w.heap.size 23 (.slice (some ⟨b, o, none⟩) l.length c) := (hb1.block _ b0.lt).trans b0
    have dO : Boxed W1 O 40 (.slice va L.length vc) := (hb1.block _ bO.lt).trans bO
    have t1 := d1.cell
    have t2 := d2.cell
    have f1 := d1.frozen
    have f2 := d2.frozen
    have tO := dO.cell
    have HHb := hide hb1
    clear b0 b1 b2 bO u0 hb1 HKq
    cases hq : tgd q.1.2 with
    | none =>
      rw [tgd_none hq] at *
      have HQ := hide hq
      obtain ⟨ma, mc, rfl⟩ := iOwn_form hs'
      clear hq hs'
      gi_wp2_with fail
      refine ⟨(hK1.trans (KeepsOthers.setCell _ _ _)).trans (KeepsOthers.setCell _ _ _), ⟨rfl, ?_, (d1.set _).kept (grownBy_setCell' _ _ _) (by simp), (d2.kept (grownBy_setCell' _ _ _) (by simp)).set _⟩, (hB1.setCell (p := ⟨w.heap.size + 1, 0, none⟩) (by simp) _).setCell (p := ⟨w.heap.size + 1 + 1, 0, none⟩) (by simp; omega) _⟩
      rw [List.map_append, List.map_singleton, coll_snoc, HL.out, HQ.out]
    | some m =>
      obtain ⟨hrb, hrl⟩ := tgd_some hq
      rw [hrl] at hs'
      rw [hrb]
      have HQ := hide hq
      have HS' := hide hs'
      obtain ⟨ma, mc, rfl⟩ := iOwn_form hs'
      clear hq hs' hrb hrl
      have hrow1 : W1.ownsRow (O + 1 + 1) 23 1 (.slice va L.length vc) L.length vs := tOwn_keep HOO.out.own (fun k _ hk => HHb.out.block k hk)
      obtain ⟨i0, hi, hz0, hz1, hz2⟩ := infoPartsT infoS
      have hW1 := HHb.out.size
      obtain ⟨LN, hLN⟩ : ∃ LN, LN = L.length := ⟨_, rfl⟩
      obtain ⟨MN, hMN⟩ : ∃ MN, MN = m.length := ⟨_, rfl⟩
      rw [← hLN] at hrow1 tO dO HOO hLl
      rw [← hMN] at HS' ⊢
      have HLN := hide hLN
      have HMN := hide hMN
      have HR1 := hide hrow1
      clear hLN hMN hrow1
      gi_wp2_with (gi_at_builtin; refine wpListIn_append_own _ rfl _ _ 40 rfl (O + 1 + 1) 23 i0 (.slice none 0 0) 1 24 Try.underlying40 hi hz0 hz1 hz2 rfl (by decide) _ _ _ rfl (HR1.out.alloc _) ⟨W1.heap.size, 0, none⟩ 1 1 [.slice ma MN mc] rfl rfl (cell_one_new _ _ _) (by simp [Value.oneCell']) (by unfold maxLen; omega) (by omega) (by simp; omega) ?_; intro v' w5 hown' hgrow _; obtain ⟨g', cap', rfl⟩ := ownsRow_succ hown'; obtain ⟨hv1, hv2, hr2, hk2, hb2⟩ := dO.appended (n₀ := w.heap.size) (by decide) (iOwn_lower HR1.out (by omega)) hB1.size (by omega) (iOwn_lower hown' (by omega)) hgrow; have hc1 := hv1.cell; have hf1 := hv1.frozen; have HOw := hide hown'; have HGr := hide hgrow; clear hown' hgrow)
      have hown := HOw.out
      have hgr := HGr.out
      have hrowlt : ∀ k, (Value.slice va LN vc).ownBlock = some k → O + 1 + 1 ≤ k := fun k hk => (HR1.out.lt k hk).1
      have hkp : ∀ k, k < O + 1 + 1 → k ≠ O → (w5.setCell ⟨O, 0, none⟩ (.slice (some ⟨g', 0, none⟩) (LN + 1) cap')).heap[k]? = W1.heap[k]? := fun k hk hne => by
        rw [Below.heap_setCell _ _ _ _ hne, hgr.block k (by simp; omega) (fun e => by have := hrowlt k e.symm; omega)]
        exact Below.heap_alloc _ _ _ (by omega)
      have hbl : Below W.heap.size W (W1.alloc (.cells #[.slice ma MN mc] 23)) := HHb.out.alloc hW1 _
      have hx1 : (W1.alloc (.cells #[.slice ma MN mc] 23)).ownsRow W.heap.size 62 2 (.slice ma MN mc) m.length (cv m) := (show W1.ownsRow W.heap.size 62 2 (.slice ma MN mc) m.length (cv m) from by have h := HS'.out; rw [HMN.out] at h ⊢; exact h).alloc _
      have hoo := HOO.out.snoc (by omega) hbl hx1 (by rw [← HLN.out]; exact hown) hgr
      obtain ⟨vs', hoo'⟩ := hoo.keep (w' := w5.setCell ⟨O, 0, none⟩ (.slice (some ⟨g', 0, none⟩) (LN + 1) cap')) (fun k hk _ => Below.heap_setCell _ _ _ _ (by simp; omega))
      refine ⟨hK1.trans hk2, ⟨(HHb.out.mono hB.size).trans hb2, ?_⟩, ⟨(hkp _ (by omega) (by omega)).trans d0, (hkp _ (by omega) (by omega)).trans d1, (hkp _ (by omega) (by omega)).trans d2, _, L ++ [m], vs', ?_, hv2, hoo', ?_⟩, hB1.trans hb2⟩
      · rw [hkp _ (by omega) (by omega)]
        exact HHb.out.block _ (by omega)
      · rw [List.map_append, List.map_singleton, coll_snoc, HL.out, HQ.out]
      · have := hgr.size
        simp at this ⊢
        omega
  case done =>
    rintro D ys W hD rfl ⟨⟨b0, b1, b2, v, L, vs, hL, bO, hOO, hbW⟩, hB⟩ hK
    have HOO := hide hOO
    have HL : Hid (coll (SH.map fun q => tgd q.2) = some L) := hide (by rw [← hfs]; exact hL)
    obtain ⟨va, vc, rfl⟩ := iOwn_form hOO.own
    have t1 := b1.cell
    have t2 := b2.cell
    have f1 := b1.frozen
    have f2 := b2.frozen
    have tO := bO.cell
    obtain ⟨N, hN⟩ : ∃ N, N = L.length := ⟨_, rfl⟩
    rw [← hN] at tO HOO
    have HNN := hide hN
    clear hN
    clear hOO hL v0 v1 v2 vO vB hxs hfs HKA bO
    gi_wp2
    have hK' := ((KeepsOthers.setCell W ⟨w.heap.size + 1, 0, none⟩ (.slice va N vc)).trans (KeepsOthers.setCell _ ⟨w.heap.size + 1 + 1, 0, none⟩ (.bool true))).same D _ hK rfl
    refine ⟨by simp, .inl ⟨_, _, rfl, run_takeDeferred hK', ?_⟩⟩
    have g0 : Boxed ((W.setCell ⟨w.heap.size + 1, 0, none⟩ (.slice va N vc)).setCell ⟨w.heap.size + 1 + 1, 0, none⟩ (.bool true)) (w.heap.size + 1) 40 (.slice va N vc) := (b1.set _).kept (grownBy_setCell' _ _ _) (by simp)
    have g1 : Boxed ((W.setCell ⟨w.heap.size + 1, 0, none⟩ (.slice va N vc)).setCell ⟨w.heap.size + 1 + 1, 0, none⟩ (.bool true)) (w.heap.size + 1 + 1) 4 (.bool true) := (b2.kept (grownBy_setCell' _ _ _) (by simp)).set _
    have e0 := cell_kept g0.cell (grownBy_putObj' _ D (.deferred none)) (fun r e => by cases e; exact ⟨_, hK', rfl⟩)
    have e1 := cell_kept g1.cell (grownBy_putObj' _ D (.deferred none)) (fun r e => by cases e; exact ⟨_, hK', rfl⟩)
    have hO5 := ((HOO.out.keep (w' := (W.setCell ⟨w.heap.size + 1, 0, none⟩ (.slice va N vc)).setCell ⟨w.heap.size + 1 + 1, 0, none⟩ (.bool true)) (fun k hk _ => by
      rw [Below.heap_setCell _ _ _ _ (by simp; omega), Below.heap_setCell _ _ _ _ (by simp; omega)])).cells (grownBy_putObj' _ D (.deferred none)) (fun r e => by cases e; exact ⟨_, hK', rfl⟩))
    refine ⟨.tuple #[.slice va N vc, .bool true], ?_, ?_⟩
    · simp [results, Try.results17, go_sem, e0, e1]
    · rw [HL.out]
      exact ⟨_, rfl, OO.lower ⟨_, hO5⟩ (by omega), ((hB.setCell (p := ⟨w.heap.size + 1, 0, none⟩) (by simp) _).setCell (p := ⟨w.heap.size + 1 + 1, 0, none⟩) (by simp; omega) _).trans (belowK_b (w := w) (Nat.le_refl _) _ D _ _ (by omega) hK' rfl rfl)⟩
  case stop =>
    rintro D c pre W hD hpre ⟨⟨rfl, hN, b1, b2⟩, hB⟩ hK
    have HN : coll (SH.map fun q => tgd q.2) = none := by
      rw [← hfs]
      obtain ⟨t, ht⟩ := hpre
      rw [← ht, List.map_append, coll_app, hN]
    gi_wp2
    refine ⟨by simp, .inl ⟨_, _, rfl, run_takeDeferred hK, ?_⟩⟩
    have e0 := cell_kept b1.cell (grownBy_putObj' _ D (.deferred none)) (fun r e => by cases e; exact ⟨_, hK, rfl⟩)
    have e1 := cell_kept b2.cell (grownBy_putObj' _ D (.deferred none)) (fun r e => by cases e; exact ⟨_, hK, rfl⟩)
    refine ⟨.tuple #[.slice none 0 0, .bool false], ?_, ?_⟩
    · simp [results, Try.results17, go_sem, e0, e1]
    · rw [HN]
      exact ⟨_, rfl, OO.nil _ _, hB.trans (belowK_b (w := w) (Nat.le_refl _) W D _ _ (by omega) hK rfl rfl)⟩

set_option maxHeartbeats 1000000 in
theorem implSteps_bad (ad : Option Addr) (c : Nat) (l : List Cc) (w : World) (hl : l.length ≤ 1048576) (hb : goodT l = false) (h : CRow w ad l) :
    Calls Try.prog 17 #[.slice ad l.length c] w fun e w' => RT w none e w' := by
  have HGd := hide (fun (w' : World) (hb : Below w.heap.size w w') => implGoodT_any ad c l w' hl (h.below hb))
  rw [hb] at HGd
  clear h hb
  go_enter Try.func17, Try.ntmps17
  go_wp2_with fail
  obtain ⟨w3, hw3⟩ : ∃ w3, w3 = ((w.alloc (.cells #[.slice ad l.length c] 23)).alloc (.cells #[.slice none 0 0] 40)).alloc (.cells #[.bool false] 4) := ⟨_, rfl⟩
  rw [← hw3]
  have hB3 : Below w.heap.size w w3 := by rw [hw3]; exact (((Below.refl _ w).alloc (Nat.le_refl _) _).alloc (by simp) _).alloc (by simp; omega) _
  have x1 : Boxed w3 (w.heap.size + 1) 40 (.slice none 0 0) := by rw [hw3]; have := (Boxed.new (w.alloc (.cells #[.slice ad l.length c] 23)) 40 (.slice none 0 0)).alloc (.cells #[.bool false] 4); simpa using this
  have x2 : Boxed w3 (w.heap.size + 1 + 1) 4 (.bool false) := by rw [hw3]; have := Boxed.new ((w.alloc (.cells #[.slice ad l.length c] 23)).alloc (.cells #[.slice none 0 0] 40)) 4 (.bool false); simpa using this
  clear hw3
  refine Calls.mono (HGd.out w3 hB3) ?_
  rintro e w4 ⟨rfl, hb4⟩
  have hB4 : Below w.heap.size w w4 := hB3.trans (hb4.mono hB3.size)
  have y1 : Boxed w4 (w.heap.size + 1) 40 (.slice none 0 0) := (hb4.block _ x1.lt).trans x1
  have y2 : Boxed w4 (w.heap.size + 1 + 1) 4 (.bool false) := (hb4.block _ x2.lt).trans x2
  have t1 := y1.cell
  have t2 := y2.cell
  have f1 := y1.frozen
  have f2 := y2.frozen
  have g0 : Boxed ((w4.setCell ⟨w.heap.size + 1, 0, none⟩ (.slice none 0 0)).setCell ⟨w.heap.size + 1 + 1, 0, none⟩ (.bool false)) (w.heap.size + 1) 40 (.slice none 0 0) := (y1.set _).kept (grownBy_setCell' _ _ _) (by simp)
  have g1 : Boxed ((w4.setCell ⟨w.heap.size + 1, 0, none⟩ (.slice none 0 0)).setCell ⟨w.heap.size + 1 + 1, 0, none⟩ (.bool false)) (w.heap.size + 1 + 1) 4 (.bool false) := (y2.kept (grownBy_setCell' _ _ _) (by simp)).set _
  have e0 := g0.cell
  have e1 := g1.cell
  clear hb4 hB3 x1 x2 HGd y1 y2 g0 g1
  go_wp2_with fail
  refine bodyPost_ret (v := .tuple #[.slice none 0 0, .bool false]) (by simp [results, Try.results17, go_sem, e0, e1]) rfl ?_
  exact ⟨_, rfl, OO.nil _ _, (hB4.setCell (p := ⟨w.heap.size + 1, 0, none⟩) (by simp) _).setCell (p := ⟨w.heap.size + 1 + 1, 0, none⟩) (by simp; omega) _⟩

theorem implSteps_any (ad : Option Addr) (c : Nat) (l : List Cc) (w : World) (hl : l.length ≤ 1048576) (hc : l.length ≤ c) (h : CRow w ad l) :
    Calls Try.prog 17 #[.slice ad l.length c] w fun e w' => RT w (stR l) e w' := by
  cases ht : treeT l with
  | none =>
    have hr : stR l = none := by unfold stR; rw [ht]
    rw [hr]
    exact implSteps_bad ad c l w hl (by unfold goodT; rw [ht]; rfl) h
  | some t =>
    obtain ⟨x, k, rfl⟩ := F.len_1 (treeT_flat ht).2.2.1
    exact implSteps_good ad c l x k w hl hc ht h
end Go.Proofs.Ytjmgnljjeogdlaa.W

/-
  The specification's StepsOf. Conditions: at most 1048576 cells.
-/
namespace Go.Proofs.Ytjmgnljjeogdlaa.W
open Go.ChangeShapes Go.WideShapes Go.ChangeAt Go.RowKit
set_option linter.unusedVariables false

theorem coll_eq {α : Type} : ∀ {l : List (Option α)} {xs : List α}, coll l = some xs → l = xs.map some
  | [], xs, h => by simp [coll] at h; subst h; rfl
  | p :: r, xs, h => by
    cases p with
    | none => cases h
    | some y =>
      simp only [coll] at h
      cases hc : coll r with
      | none => rw [hc] at h; cases h
      | some ys =>
        rw [hc] at h
        simp only [Option.map_some, Option.some.injEq] at h
        subst h
        simp [coll_eq hc]
theorem coll_tgd_none : ∀ {l : List (Option (Cc × F))}, coll l = none → coll (l.map tgd) = none
  | [], h => by cases h
  | p :: r, h => by
    cases p with
    | none => rfl
    | some y =>
      simp only [coll] at h
      have hc : coll r = none := by cases hr : coll r with
        | none => rfl
        | some ys => rw [hr] at h; cases h
      simp only [List.map_cons, coll, coll_tgd_none hc]
      cases tgd (some y) <;> rfl

set_option maxRecDepth 20000 in
set_option maxHeartbeats 2000000 in
theorem specSteps_bad (ad : Option Addr) (c : Nat) (l : List Cc) (w : World) (hl : l.length ≤ 1048576) (ht : treeT l = none) (h : CRow w ad l) :
    Calls Try.prog 19 #[.slice ad l.length c] w fun e w' => RT w none e w' := by
  have HC := hide (l3Tree_any ad c l w hl h)
  rw [ht] at HC
  clear h ht
  go_enter Try.func19, Try.ntmps19
  go_wp2_with fail
  refine Calls.mono HC.out ?_
  rintro e w1 ⟨hb1, k, n, sad, sn, sc, rfl⟩
  clear HC
  go_wp2_with fail
  exact bodyPost_ret (v := .tuple #[.slice none 0 0, .bool false]) (by simp [results, Try.results19, go_sem]) rfl ⟨_, rfl, OO.nil _ _, hb1.alloc hb1.size _⟩

set_option maxRecDepth 20000 in
set_option maxHeartbeats 4000000 in
theorem specSteps_good (ad : Option Addr) (c : Nat) (l : List Cc) (x : Cc) (k : F) (w : World) (hl : l.length ≤ 1048576) (ht : treeT l = some (.cons x k .nil)) (h : CRow w ad l) :
    Calls Try.prog 19 #[.slice ad l.length c] w fun e w' => RT w (stR l) e w' := by
  have hr : stR l = coll ((shv x k).map tgd) := by unfold stR shv; rw [ht, List.map_map]; rfl
  have HC := hide (l3Tree_any ad c l w hl h)
  rw [ht] at HC
  obtain ⟨e1, ho, -, e4, -⟩ := treeT_flat ht
  obtain ⟨g1, l1, o1, -⟩ := ho
  have hok : okT x k := ⟨g1, l1, o1⟩
  have hk6 : k.flat.length + 1 ≤ 600 := by rw [e1] at e4; simpa [F.flat] using e4
  rw [hr]
  obtain ⟨R, hR⟩ : ∃ R, R = coll ((shv x k).map tgd) := ⟨_, rfl⟩
  rw [← hR]
  have HSt := hide (fun (s : Value) (P : Nat → Prop) (w' : World) (hT : KidT w' P k s) => l4Steps_any k x s P w' hok hk6 hT)
  have hlen : (shv x k).length ≤ 600 := Nat.le_trans (sh_len hok) hk6
  have HFl := hide (fun p hp => shv_flat hok hk6 (p := p) hp)
  obtain ⟨SV, hSV⟩ : ∃ SV, SV = shv x k := ⟨_, rfl⟩
  rw [← hSV] at hR HSt hlen HFl
  have HR := hide hR
  obtain ⟨i0, hi0, hz0, hz1, hz2⟩ := infoPartsT infoS
  have Hi := hide hi0
  clear ht hr h e1 e4 g1 l1 o1 hok hk6 hR hSV hi0
  go_enter Try.func19, Try.ntmps19
  go_wp2_with fail
  refine Calls.mono HC.out ?_
  rintro e w1 ⟨hb1, x', k', s, hxe, rfl, hT⟩
  simp only [F.cons.injEq, and_true] at hxe
  obtain ⟨rfl, rfl⟩ := hxe
  obtain ⟨sad, sc, rfl⟩ := hT.form
  have HS1 := hide (fun o : Obj => HSt.out _ _ (w1.alloc o) (hT.below ((Below.refl _ _).alloc (Nat.le_refl _) o)))
  obtain ⟨KN, hKN⟩ : ∃ KN, KN = k.len := ⟨_, rfl⟩
  rw [← hKN] at HS1 ⊢
  clear HC hT hKN HSt
  go_wp2_with fail
  refine Calls.mono (HS1.out _) ?_
  rintro e w2 ⟨hso, hb2⟩
  have hB2 : Below w.heap.size w w2 := (hb1.alloc hb1.size _).trans (hb2.mono (by have := hb1.size; simp; omega))
  clear HS1 hb2
  cases hCM : coll SV with
  | none =>
    rw [hCM] at hso
    obtain rfl : e = .returned (.tuple #[.slice none 0 0, .bool false]) := hso
    have hRn : R = none := by rw [HR.out]; exact coll_tgd_none hCM
    subst hRn
    clear hCM
    go_wp2_with fail
    exact bodyPost_ret (v := .tuple #[.slice none 0 0, .bool false]) (by simp [results, Try.results19, go_sem]) rfl ⟨_, rfl, OO.nil _ _, hB2⟩
  | some M =>
    rw [hCM] at hso
    obtain ⟨s2, rfl, hM2⟩ : ∃ s', e = .returned (.tuple #[s', .bool true]) ∧ KidT w2 _ (toF M) s' := hso
    obtain ⟨mad, mc, hmf⟩ := hM2.form
    rw [toF_len] at hmf
    subst hmf
    have hSe := coll_eq hCM
    have HR2 : Hid (R = coll (M.map fun p => tgd (some p))) := hide (by rw [HR.out, hSe, List.map_map]; rfl)
    have hlM : M.length ≤ 600 := by rw [← coll_len hCM] at hlen; exact hlen
    have HFm : Hid (∀ p ∈ M, p.2.flat.length + 1 ≤ 1200) := hide (fun p hp => HFl.out p (by rw [hSe]; exact List.mem_map_of_mem hp))
    have HM2 := hide hM2
    obtain ⟨ML, hML⟩ : ∃ ML, ML = M.length := ⟨_, rfl⟩
    rw [← hML] at HM2 hlM ⊢
    have HML := hide hML
    clear hM2 hML hSe hCM HR HFl hlen
    go_wp2_with fail
    go_loopw [8, 29] (fun v i w' => ∃ (A B : List (Cc × F)) (L : List (List Cc)) (vs : List Value), M = A ++ B ∧ i = .int .i64 (A.length : Int) ∧ coll (A.map fun p => tgd (some p)) = some L ∧ OOv w' w2.heap.size v L vs ∧ Below w2.heap.size w2 w') (fun _ i _ => ML - (intOf i).toNat)
    case atStart => exact ⟨[], M, [], [], rfl, rfl, rfl, ⟨World.ownsRow_nil _ _ _ _, fun j hj => by simp at hj, fun j x k hx => by simp at hx, fun i j x y k _ hx => by simp at hx⟩, Below.refl _ _⟩
    case round =>
      obtain ⟨A, B, L, vs, hM, rfl, hL, hoo, hBe⟩ := hrel
      have HL := hide hL
      have HOo := hide hoo
      have hsr := hBe.size
      obtain ⟨oa, oc, rfl⟩ := iOwn_form hoo.own
      have hLA : L.length = A.length := by have := coll_len hL; simpa using this
      clear hL hoo
      cases B with
      | nil =>
        rw [List.append_nil] at hM
        subst hM
        have hRn : R = some L := by rw [HR2.out]; exact HL.out
        subst hRn
        have hML := HML.out
        rw [← hML]
        obtain ⟨ON, hON⟩ : ∃ ON, ON = L.length := ⟨_, rfl⟩
        rw [← hON] at HOo ⊢
        clear hML hON hLA
        go_wp2_with fail
        exact bodyPost_ret (v := .tuple #[.slice oa ON oc, .bool true]) (by simp [results, Try.results19, go_sem]) rfl ⟨_, rfl, OO.lower ⟨vs, HOo.out⟩ hB2.size, hB2.trans (hBe.mono hB2.size)⟩
      | cons p B =>
        have hMl : M.length = A.length + (B.length + 1) := by rw [hM]; simp
        have hlt2 : (A.length : Int) < (ML : Int) := by have := HML.out; omega
        have hA0 : (0 : Int) ≤ (A.length : Int) := by omega
        have hMr := HM2.out.below hBe
        rw [hM, toF_app] at hMr
        obtain ⟨gm, cpm, sz, hem, hPm, hgm, hTz, p0, p1, p2⟩ := KidT.kid (a := toF A) (k := p.2) (r := toF B) (x := p.1) hMr
        simp only [Value.slice.injEq] at hem
        obtain ⟨rfl, -, rfl⟩ := hem
        rw [toF_len] at p0 p1 p2
        obtain ⟨zad, zc, rfl⟩ := hTz.form
        have HTe := hide (fun o : Obj => l3Tell_any p.1 p.2 (.slice zad p.2.len zc) _ (wr.alloc o) (by have := HFm.out p (by rw [hM]; simp); omega) (hTz.below ((Below.refl _ _).alloc (Nat.le_refl _) o)))
        have HMs : Hid (M = (A ++ [p]) ++ B) := hide (by rw [hM]; simp)
        have HRn : Hid (tgd (some p) = none → R = none) := hide (fun hv => by
          rw [HR2.out, hM, List.map_append, List.map_cons, coll_app, HL.out]
          simp only [coll, hv]
          rfl)
        have HLs : Hid (∀ m, tgd (some p) = some m → coll ((A ++ [p]).map fun p => tgd (some p)) = some (L ++ [m])) := hide (fun m hv => by rw [List.map_append, List.map_singleton, coll_snoc, HL.out, hv])
        have hAM : A.length ≤ 600 := by have := HML.out; omega
        obtain ⟨AN, hAN⟩ : ∃ AN, AN = A.length := ⟨_, rfl⟩
        obtain ⟨PN, hPN⟩ : ∃ PN, PN = p.2.len := ⟨_, rfl⟩
        obtain ⟨ON, hON⟩ : ∃ ON, ON = L.length := ⟨_, rfl⟩
        rw [← hAN] at hlt2 hA0 hLA hAM p0 p1 p2 ⊢
        rw [← hPN] at HTe p2
        have hON6 : ON ≤ 600 := by omega
        rw [← hON] at HOo ⊢
        have HON := hide hON
        have HAN := hide hAN
        clear hM hMr hTz hAN hPN hON hMl hLA
        go_wp2_with fail
        refine Calls.mono (HTe.out _) ?_
        rintro e w4 ⟨s4, rfl, hs4, hb4⟩
        have hsa : wr.heap.size + 1 ≤ w4.heap.size := by have := hb4.size; simpa using this
        have hb4' : Below wr.heap.size wr w4 := ((Below.refl _ wr).alloc (Nat.le_refl _) _).trans (hb4.mono (by simp))
        have hB4 : Below w2.heap.size w2 w4 := hBe.trans (hb4'.mono hsr)
        clear p0 p1 p2 HTe
        cases hgd : goodT (p.1 :: p.2.flat) with
        | false =>
          have hRn := HRn.out (by unfold tgd; simp only; rw [if_neg (by rw [hgd]; simp)])
          subst hRn
          obtain ⟨fa, fc, rfl⟩ := iOwn_form hs4
          clear hgd hs4 HRn HLs
          go_wp2_with fail
          exact bodyPost_ret (v := .tuple #[.slice none 0 0, .bool false]) (by simp [results, Try.results19, go_sem]) rfl ⟨_, rfl, OO.nil _ _, hB2.trans (hB4.mono hB2.size)⟩
        | true =>
          have hLn := HLs.out (p.1 :: p.2.flat) (by unfold tgd; simp only; rw [if_pos hgd])
          have hgde : gd (p.1 :: p.2.flat) = p.1 :: p.2.flat := by unfold gd; rw [if_pos hgd]
          rw [hgde] at hs4
          have HS4 : Hid (w4.ownsRow wr.heap.size 62 2 s4 (p.1 :: p.2.flat).length (cv (p.1 :: p.2.flat))) := hide (iOwn_lower hs4 (by simp))
          have HLn := hide hLn
          obtain ⟨fa, fc, rfl⟩ := iOwn_form hs4
          obtain ⟨FN, hFN⟩ : ∃ FN, FN = (p.1 :: p.2.flat).length := ⟨_, rfl⟩
          rw [← hFN] at HS4 ⊢
          have HFN := hide hFN
          have HR4 := hide (tOwn_keep HOo.out.own (fun k _ hk => hb4'.block k hk))
          clear hgd hs4 HRn HLs hLn hgde hFN
          go_wp2_with (at_builtin; refine wpList_append_sep rfl _ _ 40 rfl w2.heap.size 23 i0 (.slice none 0 0) 1 24 Try.underlying40 Hi.out hz0 hz1 hz2 rfl (by decide) _ ON _ rfl ((show w4.ownsRow w2.heap.size 23 1 (.slice oa ON oc) ON vs from by have h := HR4.out; rw [← HON.out] at h; exact h).alloc _) ⟨w4.heap.size, 0, none⟩ 1 1 [.slice fa FN fc] rfl rfl ?c1 ?c2 ?c3 ?c4 ?c5 ?_)
          case c1 => exact cell_one_new _ _ _
          case c2 => simp [Value.oneCell']
          case c3 => unfold maxLen; omega
          case c4 => omega
          case c5 => simp; omega
          intro v' w6 hown6 hgr6 hap6
          have hba : Below wr.heap.size wr (w4.alloc (.cells #[.slice fa FN fc] 23)) := hb4'.alloc (by omega) _
          have hx6 : (w4.alloc (.cells #[.slice fa FN fc] 23)).ownsRow wr.heap.size 62 2 (.slice fa FN fc) (p.1 :: p.2.flat).length (cv (p.1 :: p.2.flat)) := (show w4.ownsRow wr.heap.size 62 2 (.slice fa FN fc) (p.1 :: p.2.flat).length (cv (p.1 :: p.2.flat)) from by have h := HS4.out; rw [HFN.out] at h ⊢; exact h).alloc _
          obtain ⟨vs', hoo'⟩ := HOo.out.snoc (by omega) hba hx6 (by rw [← HON.out]; exact hown6) hgr6
          have hB6 : Below w2.heap.size w2 w6 := (hB4.alloc hB4.size _).grown hgr6 (by have := hB4.size; simp; omega) (fun q hq => (HOo.out.own.lt q hq).1)
          obtain ⟨va, vc, rfl⟩ := iOwn_form hown6
          have HO6 := hide hoo'
          clear hown6 hgr6 hap6 hoo' hx6 HS4 HR4
          go_wp2_with fail
          have hA := HAN.out
          exact ⟨⟨A ++ [p], B, L ++ [p.1 :: p.2.flat], vs', HMs.out, by rw [List.length_append, List.length_singleton, ← hA]; go_num, HLn.out, HO6.out, hB6⟩, by simp [intOf]; omega⟩

theorem specSteps_any (ad : Option Addr) (c : Nat) (l : List Cc) (w : World) (hl : l.length ≤ 1048576) (h : CRow w ad l) :
    Calls Try.prog 19 #[.slice ad l.length c] w fun e w' => RT w (stR l) e w' := by
  cases ht : treeT l with
  | none =>
    have hr : stR l = none := by unfold stR; rw [ht]
    rw [hr]
    exact specSteps_bad ad c l w hl ht h
  | some t =>
    obtain ⟨x, k, rfl⟩ := F.len_1 (treeT_flat ht).2.2.1
    exact specSteps_good ad c l x k w hl ht h
end Go.Proofs.Ytjmgnljjeogdlaa.W

/-
  Drawn rows of cells: contracts of small, DrawLeadsTo, DrawGoodTerm and DrawStepsOf. Conditions: at most 9223372036854775807 bytes. Written by wip/build/mk_dre.py.
-/
namespace Go.Proofs.Ytjmgnljjeogdlaa.W
open Go.ChangeShapes Go.WideShapes Go.ChangeAt Go.RowKit
set_option linter.unusedVariables false
set_option linter.unusedSimpArgs false

/-- A slice that holds these cells. -/
def CRw (w : World) (v : Value) (l : List Cc) : Prop := ∃ ad c, v = .slice ad l.length c ∧ l.length ≤ c ∧ CRow w ad l
theorem CRw.form {w : World} {v : Value} {l : List Cc} (h : CRw w v l) : ∃ a c, v = .slice a l.length c := by
  obtain ⟨a, c, h, -⟩ := h; exact ⟨a, c, h⟩
theorem CRw.below {w w' : World} {v : Value} {l : List Cc} (h : CRw w v l) (hb : Below w.heap.size w w') : CRw w' v l := by
  obtain ⟨a, c, h1, h2, h3⟩ := h; exact ⟨a, c, h1, h2, h3.below hb⟩
theorem CRw.own {w : World} {b : Nat} {v : Value} {l : List Cc} (h : w.ownsRow b 62 2 v l.length (cv l)) : CRw w v l := by
  obtain ⟨a, c, h1, h2, h3⟩ := cOwn_row h; exact ⟨a, c, h1, h2, h3⟩
theorem CRw.grown' {w w' : World} {v : Value} {l : List Cc} {c : Nat} (h : CRw w v l) (hg : w.grownBy w' (some c)) (hc : ∀ b o n p, v = .slice (some ⟨b, o, none⟩) n p → b ≠ c) : CRw w' v l := by
  obtain ⟨a, p, h1, h2, h3⟩ := h
  refine ⟨a, p, h1, h2, ?_⟩
  rcases h3 with h3 | ⟨b, o, h4, h5, h6⟩
  · exact .inl h3
  · have hb := hg.block b h5 (fun e => hc b o _ _ (by rw [h1, h4]) (by simpa using e))
    exact .inr ⟨b, o, h4, Nat.lt_of_lt_of_le h5 hg.size, fun i hi => ⟨(World.cell?_of_block (a := ⟨b, o + i * 2, none⟩) hb).trans (h6 i hi).1, (World.cell?_of_block (a := ⟨b, o + i * 2 + 1, none⟩) hb).trans (h6 i hi).2⟩⟩
theorem fin0 {w w0 w9 : World} (hb : Below w.heap.size w w0) (hg : w0.grownBy w9 (some w.heap.size)) : Below w.heap.size w w9 :=
  ⟨hg.os.trans hb.os, hg.tape.trans hb.tape, hg.output.trans hb.output, Nat.le_trans hb.size hg.size, fun q hq => (hg.block q (Nat.lt_of_lt_of_le hq hb.size) (fun e => by simp at e; omega)).trans (hb.block q hq)⟩
theorem stR_len (l : List Cc) : ((stR l).getD []).length ≤ 600 ∧ ∀ m ∈ (stR l).getD [], m.length ≤ 600 := by
  unfold stR
  cases ht : treeT l with
  | none => simp
  | some t =>
    obtain ⟨x, k, rfl⟩ := F.len_1 (treeT_flat ht).2.2.1
    obtain ⟨e1, ho, -, e4, -⟩ := treeT_flat ht
    simp only
    cases hc : coll ((sh x k).map fun q => tgd q.2) with
    | none => simp
    | some L =>
      have h1 := coll_len hc
      have h2 := sh_len (x := x) (k := k) ⟨ho.1, ho.2.1, ho.2.2.1⟩
      have h3 : k.flat.length + 1 ≤ 600 := by rw [e1] at e4; simpa [F.flat] using e4
      unfold shv at h2
      simp only [List.length_map] at h1 h2
      refine ⟨by simp; omega, fun m hm => ?_⟩
      simp only [Option.getD_some] at hm
      obtain ⟨q, -, hq⟩ := List.mem_map.1 (coll_mem hc m hm)
      unfold tgd at hq
      split at hq
      · cases hq
      · split at hq
        · rename_i hg
          simp only [Option.some.injEq] at hq
          subst hq
          unfold goodT treeT at hg
          split at hg
          · omega
          · simp at hg
        · cases hq

set_option maxRecDepth 20000 in
set_option maxHeartbeats 4000000 in
theorem small_any (c n cp m : Nat) (ad : Option Addr) (w : World) (hm : m + 2000 ≤ 1000000) (hn : (n : Int) ≤ 9223372036854775807) (h : CU w c ad n cp m) :
    Calls Try.prog 35 #[.pointer (some ⟨c, 0, none⟩)] w fun e w' => TP c n cp m ad w e w' := by
  have hcl := h.lt
  have HP := hide (pick_any c n cp m 3 ad w (by omega) (by omega) hn h)
  clear h
  go_enter Try.func35, Try.ntmps35
  go_wp2_with fail
  refine Calls.mono HP.out ?_
  rintro e w1 ⟨r, rfl, hr, hc1, hg1⟩
  have hr4 : r ≤ 2 := by omega
  have hB4 : Bt (r + 1) ≤ 1210 := by
    rcases (show r = 0 ∨ r = 1 ∨ r = 2 by omega) with rfl | rfl | rfl <;> decide
  have h4 : 4 ^ (r + 1) ≤ 256 := by
    rcases (show r = 0 ∨ r = 1 ∨ r = 2 by omega) with rfl | rfl | rfl <;> decide
  have HT3 := hide (tree3_any c n cp ad hn (r + 1) 1 (m + 2) (1 + (r : Int)) 1 w1 (by omega) rfl (by omega) (by omega) hc1)
  have HG1 := hide hg1
  have HB4 := hide hB4
  have H4 := hide h4
  have hs1 := hg1.size
  have hr9 : (r : Int) ≤ 2 := by omega
  clear HP hc1 hg1 hr hB4 h4
  go_wp2_with fail
  refine Calls.mono HT3.out ?_
  rintro e w2 ⟨x, k, s, rfl, hK, hl, hc2, hg2⟩
  obtain ⟨sa, sc, hf⟩ := hK.form
  obtain ⟨KN, hKN⟩ : ∃ KN, KN = k.len := ⟨_, rfl⟩
  have hs2 := hg2.size
  have hlk : k.flat.length + 1 ≤ 256 := by have := H4.out; omega
  have HFl := hide (l3Flat_any k x s (.slice none 0 0) w2.heap.size 0 [] _ w2 (fun g _ _ => by simp [Value.ownBlock]) (by omega) (Nat.le_refl _) hK (World.ownsRow_nil _ _ _ _))
  rw [← hKN] at hf
  subst hf
  have HC2 := hide (hc2.more (m' := m + 2000) (by have := HB4.out; omega))
  have HG2 := hide (grown_trans HG1.out hg2)
  clear HT3 hK hl hc2 hg2 hKN
  go_wp2_with fail
  refine Calls.mono HFl.out ?_
  rintro e w3 ⟨v3, rfl, ho3, hg3, -⟩
  have hb3 : Below w2.heap.size w2 w3 := ⟨hg3.os, hg3.tape, hg3.output, hg3.size, fun q hq => hg3.block q hq (by simp [Value.ownBlock])⟩
  obtain ⟨l, hl⟩ : ∃ l, l = x :: k.flat := ⟨_, rfl⟩
  have ho3' : w3.ownsRow w2.heap.size 62 2 v3 l.length (cv l) := by rw [hl]; simpa using ho3
  have hll : l.length ≤ 256 := by rw [hl]; simpa using hlk
  have HO3 := hide ho3'
  have HC3 := hide (HC2.out.below hb3)
  have HG3 := hide (grown_trans HG2.out (grown_below (some c) hb3))
  obtain ⟨a3, c3, rfl⟩ := iOwn_form ho3'
  obtain ⟨LN, hLN⟩ : ∃ LN, LN = l.length := ⟨_, rfl⟩
  rw [← hLN] at HO3 hll ⊢
  have HLN := hide hLN
  clear HFl ho3 ho3' hg3 hb3 hl HC2 HG2 HG1 hlk hLN
  go_wp2_with fail
  go_ret
  exact ⟨_, l, rfl, by have := HLN.out; omega, by rw [← HLN.out]; exact iOwn_lower HO3.out (by omega), HC3.out, HG3.out⟩

set_option maxRecDepth 20000 in
set_option maxHeartbeats 2000000 in
theorem drawGood_any (n cp : Nat) (ad : Option Addr) (w : World) (hn : (n : Int) ≤ 9223372036854775807) (h : BRow w ad n) :
    Calls Try.prog 44 #[.slice ad n cp] w fun e w' => ∃ (v1 : Value) (l1 : List Cc), e = .returned v1 ∧ l1.length ≤ 1048576 ∧ CRw w' v1 l1 ∧ Below w.heap.size w w' := by
  have HC0 := hide (cu_new w ad n cp h)
  have hb0 : Below w.heap.size w (w.alloc (.cells #[.slice ad n cp, .int .i64 0, .int .u64 0] 48)) := (Below.refl _ _).alloc (Nat.le_refl _) _
  obtain ⟨w0, hw0⟩ : ∃ w0, w0 = w.alloc (.cells #[.slice ad n cp, .int .i64 0, .int .u64 0] 48) := ⟨_, rfl⟩
  rw [← hw0] at HC0 hb0
  have HB0 := hide hb0
  have Hw0 := hide hw0
  clear hw0 hb0 h
  have HP := hide (pick_any w.heap.size n cp 0 3 ad w0 (by omega) (by omega) hn HC0.out)
  go_enter Try.func44, Try.ntmps44
  go_wp2_with fail
  rw [← Hw0.out]
  refine Calls.mono HP.out ?_
  rintro e w1 ⟨r, rfl, hr, hc1, hg1⟩
  have HT := hide (term_any w.heap.size n cp (0 + 2) r ad w1 (by omega) (by omega) hn hc1)
  have HG1 := hide hg1
  clear hc1 hg1 HP HC0 hr
  go_wp2_with fail
  refine Calls.mono HT.out ?_
  rintro e w2 ⟨v1, l1, rfl, hl1, ho1, hc2, hg2⟩
  have HR := hide (CRw.own ho1)
  have HG2 := hide (grown_trans HG1.out hg2)
  obtain ⟨a1, p1, rfl⟩ := iOwn_form ho1
  obtain ⟨L1, hL1⟩ : ∃ L1, L1 = l1.length := ⟨_, rfl⟩
  rw [← hL1] at HR ⊢
  have Hl1 := hide hl1
  clear ho1 hc2 hg2 HT hL1 hl1
  go_wp2_with fail
  go_ret
  exact ⟨_, l1, rfl, by have := Hl1.out; omega, HR.out, fin0 HB0.out HG2.out⟩
theorem drawSteps_any (n cp : Nat) (ad : Option Addr) (w : World) (hn : (n : Int) ≤ 9223372036854775807) (h : BRow w ad n) :
    Calls Try.prog 18 #[.slice ad n cp] w fun e w' => ∃ (v1 : Value) (l1 : List Cc), e = .returned v1 ∧ l1.length ≤ 1048576 ∧ CRw w' v1 l1 ∧ Below w.heap.size w w' := by
  have HP := hide (drawGood_any n cp ad w hn h)
  clear h
  go_enter Try.func18, Try.ntmps18
  go_wp2_with fail
  refine Calls.mono HP.out ?_
  rintro e w1 ⟨v1, l1, rfl, hl1, hr1, hb1⟩
  have HR := hide hr1
  obtain ⟨a1, p1, hf⟩ := hr1.form
  obtain ⟨L1, hL1⟩ : ∃ L1, L1 = l1.length := ⟨_, rfl⟩
  rw [← hL1] at hf
  subst hf
  clear hr1 HP hL1
  go_wp2_with fail
  go_ret
  exact ⟨_, l1, rfl, hl1, HR.out, hb1⟩

set_option maxRecDepth 20000 in
set_option maxHeartbeats 8000000 in
theorem drawLeads_any (n cp : Nat) (ad : Option Addr) (w : World) (hn : (n : Int) ≤ 9223372036854775807) (h : BRow w ad n) :
    Calls Try.prog 12 #[.slice ad n cp] w fun e w' => ∃ (v1 v2 : Value) (l1 l2 : List Cc), e = .returned (.tuple #[v1, v2]) ∧ l1.length ≤ 1048576 ∧ l2.length ≤ 1048576 ∧ CRw w' v1 l1 ∧ CRw w' v2 l2 ∧ Below w.heap.size w w' := by
  have HC0 := hide (cu_new w ad n cp h)
  have hb0 : Below w.heap.size w (w.alloc (.cells #[.slice ad n cp, .int .i64 0, .int .u64 0] 48)) := (Below.refl _ _).alloc (Nat.le_refl _) _
  obtain ⟨w0, hw0⟩ : ∃ w0, w0 = w.alloc (.cells #[.slice ad n cp, .int .i64 0, .int .u64 0] 48) := ⟨_, rfl⟩
  have hs0 : w.heap.size < w0.heap.size := by rw [hw0]; simp
  rw [← hw0] at HC0 hb0
  have HB0 := hide hb0
  have Hw0 := hide hw0
  clear hw0 hb0 h
  have HT := hide (small_any w.heap.size n cp 0 ad w0 (by omega) hn HC0.out)
  go_enter Try.func12, Try.ntmps12
  go_wp2_with fail
  rw [← Hw0.out]
  refine Calls.mono HT.out ?_
  rintro e w1 ⟨v1, l1, rfl, hl1, ho1, hc1, hg1⟩
  have HA0 := hide (fun b o n' p (e : v1 = .slice (some ⟨b, o, none⟩) n' p) => show b ≠ w.heap.size from by
    have := (ho1.lt b (by
      rw [e]
      obtain ⟨g, cap, e2, -, -⟩ | h0 := (Nat.eq_zero_or_pos l1.length).symm.imp (fun h => tOwn_some ho1 h) id
      · rw [e] at e2; simp only [Value.slice.injEq, Option.some.injEq, Addr.mk.injEq] at e2; obtain ⟨⟨rfl, rfl, -⟩, -, -⟩ := e2; rfl
      · rcases ho1.2 with ⟨e3, -⟩ | ⟨g, cap, cur, e3, -⟩
        · rw [e] at e3; cases e3
        · rw [e] at e3; simp only [Value.slice.injEq, Option.some.injEq, Addr.mk.injEq] at e3; obtain ⟨⟨rfl, rfl, -⟩, -, -⟩ := e3; rfl)).1
    omega)
  have HR1 := hide (CRw.own ho1)
  have HC1 := hide hc1
  have HG1 := hide hg1
  have hs1 := hg1.size
  have Hl1 : Hid (l1.length ≤ 1048576) := hide (by omega)
  obtain ⟨a1, p1, rfl⟩ := iOwn_form ho1
  obtain ⟨N1, hN1⟩ : ∃ N1, N1 = l1.length := ⟨_, rfl⟩
  rw [← hN1] at HR1 HA0 ⊢
  have HA1 : Hid (∀ b o n' p, Value.slice a1 N1 p1 = .slice (some ⟨b, o, none⟩) n' p → b ≠ w.heap.size) := HA0
  have HN1 := hide hN1
  clear ho1 hc1 hg1 HT HC0 hN1 hl1 HA0
  go_wp2_with fail
  refine Calls.mono (pick_any w.heap.size n cp (0 + 2000) 4 ad w1 (by omega) (by omega) hn HC1.out) ?_
  rintro e w2 ⟨r1, rfl, hr1, hc2, hg2⟩
  have HR2 := hide (HR1.out.grown' hg2 HA1.out)
  have HC2 := hide hc2
  have HG2 := hide (grown_trans HG1.out hg2)
  have hs2 := hg2.size
  have hr4 : r1 = 0 ∨ r1 = 1 ∨ r1 = 2 ∨ r1 = 3 := by omega
  clear hc2 hg2 HC1 HG1 HR1 hr1
  rcases hr4 with rfl | rfl | rfl | rfl
  · go_wp2_with fail
    refine Calls.mono (small_any w.heap.size n cp (0 + 2000 + 2) ad w2 (by omega) hn HC2.out) ?_
    rintro e w3 ⟨v2, l2, rfl, hl2, ho2, hc3, hg3⟩
    have HR3 := hide (HR2.out.grown' hg3 HA1.out)
    have HG3 := hide (grown_trans HG2.out hg3)
    have HV2 := hide (CRw.own ho2)
    obtain ⟨a2, p2, rfl⟩ := iOwn_form ho2
    obtain ⟨N2, hN2⟩ : ∃ N2, N2 = l2.length := ⟨_, rfl⟩
    rw [← hN2] at HV2 ⊢
    have Hl2 : Hid (l2.length ≤ 1048576) := hide (by omega)
    clear ho2 hc3 hg3 hN2 hl2
    go_wp2_with fail
    exact bodyPost_ret (v := .tuple #[.slice a1 N1 p1, .slice a2 N2 p2]) (by simp [results, Try.results12, go_sem]) rfl ⟨_, _, l1, l2, rfl, Hl1.out, Hl2.out, HR3.out, HV2.out, fin0 HB0.out HG3.out⟩
  · have HDv : Hid (Calls Try.prog 16 #[.slice a1 N1 p1] w2 fun e w' => RS w2 (dvR l1) e w') := hide (by
      obtain ⟨b1, q1, e1, e2, e3⟩ := HR2.out
      simp only [Value.slice.injEq] at e1
      obtain ⟨rfl, e4, rfl⟩ := e1
      rw [e4]
      exact specDevelop_any _ _ l1 w2 Hl1.out e3)
    go_wp2_with fail
    refine Calls.mono HDv.out ?_
    rintro e w3 ⟨s3, rfl, ho3, hb3⟩
    have HR3 := hide (HR2.out.below hb3)
    have HG3 := hide (grown_trans HG2.out (grown_below (some w.heap.size) hb3))
    have HV3 := hide (CRw.own ho3)
    obtain ⟨a3, p3, rfl⟩ := iOwn_form ho3
    have hlr : (rL (dvR l1)).length ≤ 1048576 := by
      cases dvR l1 with
      | none => simp [rL]
      | some cs =>
        show (gd cs).length ≤ _
        unfold gd
        split
        · rename_i h
          unfold goodT treeT at h
          split at h
          · omega
          · simp at h
        · simp
    obtain ⟨l2, hl2⟩ : ∃ l2, l2 = rL (dvR l1) := ⟨_, rfl⟩
    rw [← hl2] at HV3 hlr ⊢
    obtain ⟨N2, hN2⟩ : ∃ N2, N2 = l2.length := ⟨_, rfl⟩
    rw [← hN2] at HV3 ⊢
    obtain ⟨B2, hB2⟩ : ∃ B2, B2 = rB (dvR l1) := ⟨_, rfl⟩
    rw [← hB2]
    have Hlr := hide hlr
    clear ho3 hb3 hN2 hl2 hB2 HDv hlr
    cases B2 with
    | true =>
      go_wp2_with fail
      exact bodyPost_ret (v := .tuple #[.slice a1 N1 p1, .slice a3 N2 p3]) (by simp [results, Try.results12, go_sem]) rfl ⟨_, _, l1, l2, rfl, Hl1.out, Hlr.out, HR3.out, HV3.out, fin0 HB0.out HG3.out⟩
    | false =>
      go_wp2_with fail
      exact bodyPost_ret (v := .tuple #[.slice a1 N1 p1, .slice a1 N1 p1]) (by simp [results, Try.results12, go_sem]) rfl ⟨_, _, l1, l1, rfl, Hl1.out, Hl1.out, HR3.out, HR3.out, fin0 HB0.out HG3.out⟩
  · have HDv : Hid (Calls Try.prog 19 #[.slice a1 N1 p1] w2 fun e w' => RT w2 (stR l1) e w') := hide (by
      obtain ⟨b1, q1, e1, e2, e3⟩ := HR2.out
      simp only [Value.slice.injEq] at e1
      obtain ⟨rfl, e4, rfl⟩ := e1
      rw [e4]
      exact specSteps_any _ _ l1 w2 Hl1.out e3)
    go_wp2_with fail
    refine Calls.mono HDv.out ?_
    rintro e w3 ⟨s3, rfl, hoo, hb3⟩
    have HR3 := hide (HR2.out.below hb3)
    have HG3 := hide (grown_trans HG2.out (grown_below (some w.heap.size) hb3))
    have HC3 := hide ((HC2.out.below hb3).more (m' := 2004) (by omega))
    have HSt := hide (stR_len l1)
    obtain ⟨vs, hov⟩ := hoo
    obtain ⟨a3, p3, rfl⟩ := iOwn_form hov.own
    obtain ⟨LN, hLN⟩ : ∃ LN, LN = ((stR l1).getD []).length := ⟨_, rfl⟩
    have hL6 : LN ≤ 600 := by rw [hLN]; exact HSt.out.1
    have HAt : Hid (∀ (i : Nat) (l : List Cc), ((stR l1).getD [])[i]? = some l → ∃ x, vs[i]? = some x ∧ w3.ownsRow w2.heap.size 62 2 x l.length (cv l)) := hide (fun i l hl => by
      have hi := (List.getElem?_eq_some_iff.1 hl).1
      have he := (List.getElem?_eq_some_iff.1 hl).2
      obtain ⟨x, h1, h2⟩ := hov.at_ i hi
      rw [he] at h2
      exact ⟨x, h1, h2⟩)
    have hs3 := hb3.size
    have HOv := hide hov
    rw [← hLN]
    have HLN := hide hLN
    obtain ⟨B2, hB2⟩ : ∃ B2, B2 = (stR l1).isSome := ⟨_, rfl⟩
    rw [← hB2]
    clear hb3 hB2 HDv hLN hov
    have hfin : ∀ W, Below w3.heap.size w3 W → bodyPost Try.prog Try.f12 (fun e w' => True) .ret ⟨#[], []⟩ W → True := fun _ _ _ => trivial
    clear hfin
    cases B2 with
    | false =>
      go_wp2_with fail
      exact bodyPost_ret (v := .tuple #[.slice a1 N1 p1, .slice a1 N1 p1]) (by simp [results, Try.results12, go_sem]) rfl ⟨_, _, l1, l1, rfl, Hl1.out, Hl1.out, HR3.out, HR3.out, fin0 HB0.out HG3.out⟩
    | true =>
      by_cases hL0 : 0 < LN
      · have hL0' : (0 : Int) < (LN : Int) := by omega
        obtain ⟨gg, cap, e1, hgb, hgl, hcell⟩ := tOwn_lies (s := .slice a3 ((stR l1).getD []).length p3) HOv.out.own (by rw [← HLN.out]; exact hL0)
        simp only [Value.slice.injEq] at e1
        obtain ⟨rfl, -, rfl⟩ := e1
        have HSv := hide hcell
        clear hcell HOv
        go_wp2_with fail
        refine wp_region_noPanic ?_
        refine wp_region_held_drew (S := fun w' => ∀ (i : Nat) (u : Value), vs[i]? = some u → w'.cell? ⟨gg, i, none⟩ = some u) (by kernel_rfl) HSv.out (fun hHeld => ?_)
        refine wpAnyH_take (i := 0) (oi := _) (v := ?_) rfl (by kernel_rfl) (by kernel_rfl) (by kernel_rfl) (fun _ _ _ h => h) (Or.inl ⟨by rfl, ?_⟩) (by assumption) ?_
        rotate_left 1
        · (intro w hSw; (try dsimp only at hSw); (first | (go_simp; done) | (go_simp; with_reducible rfl)))
        try simp only [Act.put, List.getElem_toArray, List.getElem_cons_zero, List.getElem_cons_succ, List.setIfInBounds_toArray, List.set_cons_zero, List.set_cons_succ]
        refine wpAnyH_take (i := 1) (oi := _) (v := ?_) rfl (by kernel_rfl) (by kernel_rfl) (by kernel_rfl) (fun _ _ _ h => h) (Or.inl ⟨by rfl, ?_⟩) (by assumption) ?_
        rotate_left 1
        · (intro w hSw; (try dsimp only at hSw); (first | (go_simp; done) | (go_simp; with_reducible rfl)))
        try simp only [Act.put, List.getElem_toArray, List.getElem_cons_zero, List.getElem_cons_succ, List.setIfInBounds_toArray, List.set_cons_zero, List.set_cons_succ]
        refine wpAnyH_take (i := 2) (oi := _) (v := ?_) rfl (by kernel_rfl) (by kernel_rfl) (by kernel_rfl) (fun _ _ _ h => h) (Or.inl ⟨by rfl, ?_⟩) (by assumption) ?_
        rotate_left 1
        · (intro w hSw; (try dsimp only at hSw); (first | (go_simp; done) | (go_simp; with_reducible rfl)))
        try simp only [Act.put, List.getElem_toArray, List.getElem_cons_zero, List.getElem_cons_succ, List.setIfInBounds_toArray, List.set_cons_zero, List.set_cons_succ]
        refine wpAnyH_take (i := 3) (oi := _) (v := ?_) rfl (by kernel_rfl) (by kernel_rfl) (by kernel_rfl) (fun _ _ _ h => h) (Or.inl ⟨by rfl, ?_⟩) (by assumption) ?_
        rotate_left 1
        · (intro w hSw; (try dsimp only at hSw); (first | (go_simp; done) | (go_simp; with_reducible rfl)))
        try simp only [Act.put, List.getElem_toArray, List.getElem_cons_zero, List.getElem_cons_succ, List.setIfInBounds_toArray, List.set_cons_zero, List.set_cons_succ]
        refine wpAnyH_take (i := 4) (oi := _) (v := ?_) rfl (by kernel_rfl) (by kernel_rfl) (by kernel_rfl) (fun _ _ _ h => h) (Or.inl ⟨by rfl, ?_⟩) (by assumption) ?_
        rotate_left 1
        · (intro w hSw; (try dsimp only at hSw); (first | (go_simp; done) | (go_simp; with_reducible rfl)))
        try simp only [Act.put, List.getElem_toArray, List.getElem_cons_zero, List.getElem_cons_succ, List.setIfInBounds_toArray, List.set_cons_zero, List.set_cons_succ]
        obtain ⟨wd, hwd⟩ : ∃ wd, wd = w3.drew := ⟨_, rfl⟩
        have hbd : Below w3.heap.size w3 wd := by rw [hwd]; exact ⟨rfl, rfl, rfl, Nat.le_refl _, fun _ _ => rfl⟩
        have HPk := hide (pick_any w.heap.size n cp 2004 LN ad wd (by omega) (by omega) hn (HC3.out.below hbd))
        have HSd : Hid (∀ (i : Nat) (u : Value), vs[i]? = some u → wd.cell? ⟨gg, i, none⟩ = some u) := hide (fun i u hu => (hbd.cell (p := ⟨gg, i, none⟩) hgl).trans (HSv.out i u hu))
        have HBd := hide hbd
        have hgd : gg < wd.heap.size := Nat.lt_of_lt_of_le hgl hbd.size
        rw [← hwd]
        clear hwd hbd
        refine wpAnyH_ready (rs := [5]) (by kernel_rfl) (by simp) ?_
        refine AllReadyH.cons (o := _) rfl (fun K hK => ?_) AllReadyH.nil
        go_simp
        (with_reducible refine Calls.mono HPk.out ?_)
        rintro e w5 ⟨r, rfl, hr, hc5, hg5⟩
        have hrL : r < LN := by omega
        have HS5 : Hid (∀ (i : Nat) (u : Value), vs[i]? = some u → w5.cell? ⟨gg, i, none⟩ = some u) := hide (fun i u hu => (World.cell?_of_block (a := ⟨gg, i, none⟩) (hg5.block gg hgd (fun e => by simp at e; omega))).trans (HSd.out i u hu))
        obtain ⟨l2, hl2e, hl2m⟩ : ∃ l2, (((stR l1).getD [])[r]? = some l2) ∧ l2 ∈ (stR l1).getD [] := by
          have hr2 : r < ((stR l1).getD []).length := by rw [← HLN.out]; exact hrL
          exact ⟨_, List.getElem?_eq_getElem hr2, List.getElem_mem hr2⟩
        obtain ⟨x, hx1, hx2⟩ := HAt.out r l2 hl2e
        obtain ⟨xa, xc, hxf⟩ := iOwn_form hx2
        obtain ⟨XN, hXN⟩ : ∃ XN, XN = l2.length := ⟨_, rfl⟩
        rw [← hXN] at hxf
        subst hxf
        have HX := hide (tOwn_keep hx2 (fun k hk hk2 => (hg5.block k (Nat.lt_of_lt_of_le hk2 HBd.out.size) (fun e => by simp at e; omega)).trans (HBd.out.block k hk2)))
        have HV := hide ((HR3.out.below HBd.out).grown' (c := w.heap.size) hg5 HA1.out)
        have HG5 := hide (grown_trans HG3.out (grown_trans (grown_below (some w.heap.size) HBd.out) hg5))
        have Hx1 := hide hx1
        have hrl1 : (r : Int) < (LN : Int) := by omega
        have hrl0 : (0 : Int) ≤ (r : Int) := by omega
        have HXN := hide hXN
        clear hx1 hx2 hXN hc5 hg5 hr HPk
        (try go_wp2_with fail)
        refine hK.out _ _ HS5.out (fun hHeld => ?_)
        clear hK K
        try simp only [Act.put, List.getElem_toArray, List.getElem_cons_zero, List.getElem_cons_succ, List.setIfInBounds_toArray, List.set_cons_zero, List.set_cons_succ]
        refine wpAnyH_take (i := 6) (oi := _) (v := ?_) rfl (by kernel_rfl) (by kernel_rfl) (by kernel_rfl) (fun _ _ _ h => h) (Or.inl ⟨by rfl, ?_⟩) (by assumption) ?_
        rotate_left 1
        · (intro w hSw; (try dsimp only at hSw); (first | (go_simp; done) | (go_simp; with_reducible rfl)))
        try simp only [Act.put, List.getElem_toArray, List.getElem_cons_zero, List.getElem_cons_succ, List.setIfInBounds_toArray, List.set_cons_zero, List.set_cons_succ]
        refine wpAnyH_take (i := 7) (oi := _) (v := .slice xa XN xc) rfl (by kernel_rfl) (by kernel_rfl) (by kernel_rfl) (fun _ _ _ h => h) (Or.inl ⟨by rfl, ?_⟩) (by assumption) ?_
        · (intro w hSw; (try dsimp only at hSw); (have hq := hSw r _ Hx1.out; go_simp))
        try simp only [Act.put, List.getElem_toArray, List.getElem_cons_zero, List.getElem_cons_succ, List.setIfInBounds_toArray, List.set_cons_zero, List.set_cons_succ]
        refine wpAnyH_take (i := 8) (oi := _) (v := ?_) rfl (by kernel_rfl) (by kernel_rfl) (by kernel_rfl) (fun _ _ _ h => h) (Or.inl ⟨by rfl, ?_⟩) (by assumption) ?_
        rotate_left 1
        · (intro w hSw; (try dsimp only at hSw); (first | (go_simp; done) | (go_simp; with_reducible rfl)))
        try simp only [Act.put, List.getElem_toArray, List.getElem_cons_zero, List.getElem_cons_succ, List.setIfInBounds_toArray, List.set_cons_zero, List.set_cons_succ]
        refine wpAnyH_take (i := 9) (oi := _) (v := ?_) rfl (by kernel_rfl) (by kernel_rfl) (by kernel_rfl) (fun _ _ _ h => h) (Or.inl ⟨by rfl, ?_⟩) (by assumption) ?_
        rotate_left 1
        · (intro w hSw; (try dsimp only at hSw); (first | (go_simp; done) | (go_simp; with_reducible rfl)))
        try simp only [Act.put, List.getElem_toArray, List.getElem_cons_zero, List.getElem_cons_succ, List.setIfInBounds_toArray, List.set_cons_zero, List.set_cons_succ]
        refine wpAnyH_done (by kernel_rfl) ?_ _
        refine NoPanic.normal ?_
        go_wp2_with fail
        refine bodyPost_ret (v := .tuple #[.slice a1 N1 p1, .slice xa XN xc]) (by simp [results, Try.results12, go_sem]) rfl ⟨_, _, l1, l2, rfl, Hl1.out, by have := HSt.out.2 l2 hl2m; omega, HV.out, ?_, ?_⟩
        · have h := HX.out; rw [HXN.out] at h ⊢; exact CRw.own h
        · exact fin0 HB0.out HG5.out
      · have hL0' : ¬ (0 : Int) < (LN : Int) := by omega
        go_wp2_with fail
        exact bodyPost_ret (v := .tuple #[.slice a1 N1 p1, .slice a1 N1 p1]) (by simp [results, Try.results12, go_sem]) rfl ⟨_, _, l1, l1, rfl, Hl1.out, Hl1.out, HR3.out, HR3.out, fin0 HB0.out HG3.out⟩
  · go_wp2_with fail
    exact bodyPost_ret (v := .tuple #[.slice a1 N1 p1, .slice a1 N1 p1]) (by simp [results, Try.results12, go_sem]) rfl ⟨_, _, l1, l1, rfl, Hl1.out, Hl1.out, HR2.out, HR2.out, fin0 HB0.out HG2.out⟩
end Go.Proofs.Ytjmgnljjeogdlaa.W

/-
  All that a term leads to at once: the model. No program here.
-/
namespace Go.Proofs.Ytjmgnljjeogdlaa.W
set_option linter.unusedVariables false

/-- Whether two rows are the same. -/
def sameR : List Cc → List Cc → Bool
  | [], [] => true
  | x :: l, y :: r => decide (x.k = y.k) && (decide (x.n = y.n) && sameR l r)
  | _, _ => false
theorem sameR_iff : ∀ (l r : List Cc), sameR l r = true ↔ l = r
  | [], [] => by simp [sameR]
  | [], _ :: _ => by simp [sameR]
  | _ :: _, [] => by simp [sameR]
  | x :: l, y :: r => by
    obtain ⟨a, b⟩ := x
    obtain ⟨c, d⟩ := y
    simp only [sameR, Bool.and_eq_true, decide_eq_true_eq, sameR_iff l r, List.cons.injEq, Cc.mk.injEq, and_assoc]
/-- Whether two are the same, term by term. -/
def sameF : F → F → Bool
  | .nil, .nil => true
  | .cons x k r, .cons y m q => (decide (x.k = y.k) && (decide (x.n = y.n) && sameF k m)) && sameF r q
  | .nil, .cons _ _ _ => false
  | .cons _ _ _, .nil => false
theorem sameF_iff : ∀ (a b : F), sameF a b = true ↔ a = b
  | .nil, .nil => by simp [sameF]
  | .nil, .cons _ _ _ => by simp [sameF]
  | .cons _ _ _, .nil => by simp [sameF]
  | .cons x k r, .cons y m q => by
    obtain ⟨a, b⟩ := x
    obtain ⟨c, d⟩ := y
    simp only [sameF, Bool.and_eq_true, decide_eq_true_eq, sameF_iff k m, sameF_iff r q, F.cons.injEq, Cc.mk.injEq, and_assoc]
theorem sameF_app : ∀ (a b c d : F), a.len = b.len → sameF (a.app c) (b.app d) = (sameF a b && sameF c d)
  | .nil, .nil, c, d, _ => by simp [F.app, sameF]
  | .nil, .cons _ _ _, c, d, h => by simp [F.len] at h
  | .cons _ _ _, .nil, c, d, h => by simp [F.len] at h
  | .cons x k r, .cons y m q, c, d, h => by
    simp only [F.len, Nat.add_right_cancel_iff] at h
    simp only [F.app, sameF, sameF_app r q c d h, Bool.and_assoc]
/-- Rows of which each cell tells how many are behind it are the same as trees where they are the same as rows. -/
def F.ard : F → Prop
  | .nil => True
  | .cons x k r => k.len = ar x.k ∧ k.ard ∧ r.ard
theorem flat_cut : ∀ (a b : F) (u v : List Cc), a.ard → b.ard → a.len = b.len → a.flat ++ u = b.flat ++ v → a = b ∧ u = v
  | .nil, .nil, u, v, _, _, _, h => ⟨rfl, by simpa [F.flat] using h⟩
  | .nil, .cons _ _ _, u, v, _, _, h, _ => by simp [F.len] at h
  | .cons _ _ _, .nil, u, v, _, _, h, _ => by simp [F.len] at h
  | .cons x k r, .cons y m q, u, v, ⟨a1, a2, a3⟩, ⟨b1, b2, b3⟩, h, e => by
    simp only [F.len, Nat.add_right_cancel_iff] at h
    simp only [F.flat, List.cons_append, List.cons.injEq, List.append_assoc] at e
    obtain ⟨rfl, e⟩ := e
    obtain ⟨rfl, e2⟩ := flat_cut k m _ _ a2 b2 (by rw [a1, b1]) e
    obtain ⟨rfl, e3⟩ := flat_cut r q _ _ a3 b3 h e2
    exact ⟨rfl, e3⟩
theorem flat_inj {a b : F} (ha : a.ard) (hb : b.ard) (hl : a.len = b.len) (h : a.flat = b.flat) : a = b := (flat_cut a b [] [] ha hb hl (by simpa using h)).1
theorem same_flat {a b : F} (ha : a.ard) (hb : b.ard) (hl : a.len = b.len) : sameR a.flat b.flat = sameF a b := by
  rw [Bool.eq_iff_iff, sameR_iff, sameF_iff]
  exact ⟨flat_inj ha hb hl, fun h => by rw [h]⟩
/-- A term more, once. -/
def ldA (l : List (Cc × F)) (p : Cc × F) : List (Cc × F) := if (l.any fun q => sameR (q.1 :: q.2.flat) (p.1 :: p.2.flat)) = true then l else l ++ [p]
/-- Those that redexes come to, behind others. -/
def ldC (x : Cc) : List (Cc × F) → List F → Option (List (Cc × F))
  | out, [] => some out
  | out, w :: r => match ctrO x w with
    | none => none
    | some p => ldC x (ldA out p) r
/-- The same, given up as soon as there are too many. -/
def ldE (x : Cc) : List (Cc × F) → List F → Option (List (Cc × F))
  | out, [] => some out
  | out, w :: r => match ctrO x w with
    | none => none
    | some p => if 200 < (ldA out p).length then none else ldE x (ldA out p) r
def ldX (x : Cc) (rd : Bool) (ws : List F) : Option (List (Cc × F)) :=
  if ∃ w ∈ ws, 600 < w.flat.length + 1 then none
  else if rd = true then (match ldC x (ws.map fun w => (x, w)) ws with | none => none | some out => if out.length ≤ 200 then some out else none)
  else if ws.length ≤ 200 then some (ws.map fun w => (x, w)) else none
/-- Each of the fronts with each of these behind it. -/
def ldW (ws : List F) (l : List (Cc × F)) : List F := ws.flatMap fun w => l.map fun y => w.app (.cons y.1 y.2 .nil)
def ldG : List F → F → Option (List F)
  | ws, .nil => some ws
  | ws, .cons x k r => match (match ldG [.nil] k with | none => none | some us => ldX x (redx x k) us) with
    | none => none
    | some l => if 200 < (ldW ws l).length then none else ldG (ldW ws l) r
def ldT (x : Cc) (k : F) : Option (List (Cc × F)) := match ldG [.nil] k with | none => none | some us => ldX x (redx x k) us
theorem ldG_cons (ws : List F) (x : Cc) (k r : F) : ldG ws (.cons x k r) = match ldT x k with | none => none | some l => if 200 < (ldW ws l).length then none else ldG (ldW ws l) r := by
  rw [ldG]; rfl
theorem ldG_app : ∀ (a b : F) (ws : List F), ldG ws (a.app b) = match ldG ws a with | none => none | some us => ldG us b
  | .nil, b, ws => rfl
  | .cons x k r, b, ws => by
    show ldG ws (.cons x k (r.app b)) = _
    rw [ldG_cons, ldG_cons]
    cases ldT x k with
    | none => rfl
    | some l =>
      simp only
      by_cases h : 200 < (ldW ws l).length
      · rw [if_pos h, if_pos h]
      · rw [if_neg h, if_neg h]
        exact ldG_app r b _

theorem ldA_le (l : List (Cc × F)) (p : Cc × F) : l.length ≤ (ldA l p).length := by
  unfold ldA
  split
  · exact Nat.le_refl _
  · simp
theorem ldA_le1 (l : List (Cc × F)) (p : Cc × F) : (ldA l p).length ≤ l.length + 1 := by
  unfold ldA
  split
  · omega
  · simp
theorem ldC_le (x : Cc) : ∀ (ws : List F) (out res : List (Cc × F)), ldC x out ws = some res → out.length ≤ res.length
  | [], out, res, h => by simp only [ldC, Option.some.injEq] at h; rw [h]; exact Nat.le_refl _
  | w :: r, out, res, h => by
    rw [ldC] at h
    cases hc : ctrO x w with
    | none => rw [hc] at h; cases h
    | some p =>
      rw [hc] at h
      have := ldC_le x r _ res h
      have := ldA_le out p
      omega
/-- To give up early tells the same. -/
theorem ldE_eq (x : Cc) : ∀ (ws : List F) (out : List (Cc × F)), out.length ≤ 200 → ldE x out ws = (match ldC x out ws with | none => none | some res => if res.length ≤ 200 then some res else none)
  | [], out, h => by simp only [ldE, ldC]; rw [if_pos h]
  | w :: r, out, h => by
    rw [ldE, ldC]
    cases hc : ctrO x w with
    | none => rfl
    | some p =>
      simp only
      by_cases h2 : 200 < (ldA out p).length
      · rw [if_pos h2]
        cases hr : ldC x (ldA out p) r with
        | none => rfl
        | some res =>
          have := ldC_le x r _ res hr
          simp only
          rw [if_neg (by omega)]
      · rw [if_neg h2]
        exact ldE_eq x r _ (by omega)
theorem ldW_len (l : List (Cc × F)) : ∀ ws : List F, (ldW ws l).length = ws.length * l.length
  | [] => by simp [ldW]
  | w :: r => by
    have := ldW_len l r
    unfold ldW at this ⊢
    rw [List.flatMap_cons, List.length_append, this, List.length_map, List.length_cons, Nat.succ_mul]
    omega
theorem ldX_le {x : Cc} {rd : Bool} {ws : List F} {l : List (Cc × F)} (h : ldX x rd ws = some l) : l.length ≤ 200 ∧ ws.length ≤ l.length := by
  unfold ldX at h
  split at h
  · cases h
  · split at h
    · cases hc : ldC x (ws.map fun w => (x, w)) ws with
      | none => rw [hc] at h; cases h
      | some out =>
        rw [hc] at h
        simp only at h
        split at h
        · rename_i h2
          simp only [Option.some.injEq] at h
          have := ldC_le x _ _ _ hc
          rw [List.length_map] at this
          rw [← h]
          exact ⟨h2, this⟩
        · cases h
    · split at h
      · rename_i h2
        simp only [Option.some.injEq] at h
        rw [← h, List.length_map]
        exact ⟨h2, Nat.le_refl _⟩
      · cases h
theorem ldG_pos : ∀ (a : F) (ws us : List F), 0 < ws.length → ws.length ≤ 200 → ldG ws a = some us → 0 < us.length ∧ us.length ≤ 200
  | .nil, ws, us, h0, h2, h => by simp only [ldG, Option.some.injEq] at h; rw [← h]; exact ⟨h0, h2⟩
  | .cons x k r, ws, us, h0, h2, h => by
    rw [ldG_cons] at h
    cases ht : ldT x k with
    | none => rw [ht] at h; cases h
    | some l =>
      rw [ht] at h
      simp only at h
      split at h
      · cases h
      · rename_i h3
        have hl : 0 < l.length := by
          unfold ldT at ht
          cases hg : ldG [.nil] k with
          | none => rw [hg] at ht; cases ht
          | some vs =>
            rw [hg] at ht
            have := (ldG_pos k [.nil] vs (by simp) (by simp) hg).1
            have := (ldX_le ht).2
            omega
        refine ldG_pos r _ us ?_ (by omega) h
        rw [ldW_len]
        exact Nat.mul_pos h0 hl
/-- Each of them has as many terms behind it as the one that is read. -/
theorem ldG_len : ∀ (a : F) (n : Nat) (ws us : List F), (∀ w ∈ ws, w.len = n) → ldG ws a = some us → ∀ u ∈ us, u.len = n + a.len
  | .nil, n, ws, us, h0, h, u, hu => by
    simp only [ldG, Option.some.injEq] at h
    rw [← h] at hu
    rw [h0 u hu]
    rfl
  | .cons x k r, n, ws, us, h0, h, u, hu => by
    rw [ldG_cons] at h
    cases ht : ldT x k with
    | none => rw [ht] at h; cases h
    | some l =>
      rw [ht] at h
      simp only at h
      split at h
      · cases h
      · have := ldG_len r (n + 1) (ldW ws l) us (fun w hw => by
          unfold ldW at hw
          rw [List.mem_flatMap] at hw
          obtain ⟨v, hv, hw⟩ := hw
          rw [List.mem_map] at hw
          obtain ⟨y, -, rfl⟩ := hw
          rw [F.app_len, h0 v hv]
          rfl) h u hu
        rw [this, F.len]
        omega
end Go.Proofs.Ytjmgnljjeogdlaa.W

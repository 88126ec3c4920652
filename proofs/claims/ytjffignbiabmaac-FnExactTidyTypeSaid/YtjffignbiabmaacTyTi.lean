/-
  Types with variables numbered anew, by the program: contracts of numberOf, slices.Clone at cells of types, TidyType. Conditions: at most 1048576 cells.
-/
import Derived.Test.YtjffignbiabmaacTyTs
import Derived.Maps.OwnSet
namespace Go.Proofs.Ytjffignbiabmaac.Y
open Go.Proofs.Ytjffignbiabmaac.W
open Go.ChangeShapes Go.WideShapes Go.ChangeAt Go.RowKit
open Go.Maps
set_option linter.unusedVariables false

theorem lawI : Keyed Try.prog 3 := int_keyed Try.underlying3
theorem zeroI (w : World) : (zeroValue 3).run Try.prog w = .ok (.int .i64 0) w := by kernel_rfl

/-- The map numbers these, as they came. -/
def NM (w : World) (B : Nat) (o : List Int) : Prop := ∃ D : DataW Unit, w.ownsMap Try.prog 3 (plainElem Try.prog 3) B o.length D ∧ Tidy D ∧ Maps.size D = o.length ∧ (∀ v : Int, Maps.has D (.int .i64 v) = decide (v ∈ o)) ∧ ∀ v ∈ o, D.atKey (.int .i64 v) (.lit (.int .i64 0)) = .lit (.int .i64 ((o.idxOf v : Nat) : Int))
theorem NM.made (w : World) : NM (w.alloc (.map #[] 0)) w.heap.size [] := ⟨.map [], World.ownsMap_made _ _ _ _, tidy_empty, rfl, fun v => by simp [Maps.has], fun v h => by cases h⟩
theorem NM.kept {w w' : World} {B : Nat} {o : List Int} {row : Option Nat} (h : NM w B o) (hg : w.grownBy w' row) (hne : some B ≠ row) : NM w' B o := by
  obtain ⟨D, h1, h2⟩ := h
  exact ⟨D, h1.kept hg hne, h2⟩
theorem NM.lt {w : World} {B : Nat} {o : List Int} (h : NM w B o) : B < w.heap.size := by obtain ⟨D, h1, -⟩ := h; exact h1.lt

theorem keyI {v : Int} (h0 : 0 ≤ v) (h1 : v ≤ 30) : keyOf Try.prog 3 (.int .i64 v) = some (.int .i64 v) := keyOf_int_mk Try.underlying3 (WalkArith.wf_i64 (by omega))

set_option maxRecDepth 20000 in
set_option maxHeartbeats 2000000 in
theorem numberOf_any (v : Int) (B : Nat) (o : List Int) (w : World) (h0 : 0 ≤ v) (h1 : v ≤ 30) (hl : o.length ≤ 1000) (h : NM w B o) :
    Calls Try.prog 24 #[.int .i64 v, .map (some B)] w fun e w' => e = .returned (.int .i64 (((av1 o ⟨1, v⟩).idxOf v : Nat) : Int)) ∧ NM w' B (av1 o ⟨1, v⟩) ∧ w.grownBy w' (some B) := by
  obtain ⟨D, hown, htd, hsz, hhas, hat⟩ := h
  have hkey := keyI h0 h1
  by_cases hm : v ∈ o
  · have he : av1 o ⟨1, v⟩ = o := av1_has hm
    rw [he]
    have hh := hhas v
    rw [decide_eq_true hm] at hh
    have HAt := hide (hat v hm)
    have HN : Hid (NM w B o) := hide ⟨D, hown, htd, hsz, hhas, hat⟩
    clear hat hhas he
    go_enter Try.func24, Try.ntmps24
    go_wp2_with (first | (at_lookup; refine wpList_lookup_own_ok_int _ rfl _ _ 52 rfl 3 3 .i64 lawI Try.underlying52 Try.underlying3 (zeroI _) B o.length D rfl hown _ _ rfl hkey ?_; intro c hc hwc) | fail)
    go_ret
    have hcc := hc.symm.trans HAt.out
    simp only [DataW.lit.injEq, Lit.int.injEq, true_and] at hcc
    exact ⟨ret_int hcc, HN.out, ⟨rfl, rfl, rfl, Nat.le_refl _, fun _ _ _ => rfl⟩⟩
  · have he : av1 o ⟨1, v⟩ = o ++ [v] := av1_new rfl hm
    rw [he]
    have hix : (o ++ [v]).idxOf v = o.length := by rw [List.idxOf_append, if_neg hm]; simp
    rw [hix]
    have hh := hhas v
    rw [decide_eq_false hm] at hh
    have HHas := hide hhas
    have HAt := hide hat
    have HSz := hide hsz
    have HIx := hide hix
    clear hat hhas he hix
    have hlen : ((Maps.size D : Nat) : Int) = (o.length : Int) := by rw [hsz]
    clear hsz
    go_enter Try.func24, Try.ntmps24
    go_wp2_with (first | (at_lookup; refine wpList_lookup_own_ok_int _ rfl _ _ 52 rfl 3 3 .i64 lawI Try.underlying52 Try.underlying3 (zeroI _) B o.length D rfl hown _ _ rfl hkey ?_; intro c hc hwc) | (at_len; refine wpList_len_own _ rfl _ 52 rfl 3 3 Try.underlying52 (plainElem Try.prog 3) B o.length D rfl hown ?_) | (at_mapUpdate; refine wpList_mapUpdate_own _ rfl _ _ _ 52 rfl 3 3 lawI Try.underlying52 _ B o.length D rfl hown (by unfold maxLen; omega) _ _ _ rfl rfl hkey _ [] (plainElem_int Try.underlying3 (WalkArith.wf_i64 (by omega))) ?_; intro w1 hown1 hgrow1) | fail)
    go_ret
    refine ⟨ret_int (by omega), ⟨_, by rw [List.length_append]; exact hown1, htd.put (by trivial) _, ?_, ?_, ?_⟩, hgrow1⟩
    · rw [size_put htd, hh, HSz.out]; simp
    · intro u
      by_cases hu : u = v
      · subst hu
        rw [has_put_same htd.isMap (by trivial)]; simp
      · rw [has_put_other (by simpa using hu), HHas.out]; simp [hu]
    · intro u hum
      by_cases hu : u = v
      · subst hu
        rw [atKey_put_same htd.isMap (by trivial), HIx.out]
      · rw [atKey_put_other (by simpa using hu), HAt.out u (by simpa [hu] using hum), List.idxOf_append, if_pos (by simpa [hu] using hum)]

theorem good_mem : ∀ (a : F), a.ok → ∀ x ∈ a.flat, goodC x = true
  | .nil, _, x, hx => by cases hx
  | .cons y k r, h, x, hx => by
    obtain ⟨g1, l1, o1, r1⟩ : goodC y = true ∧ k.len = ar y.k ∧ k.ok ∧ r.ok := h
    simp only [F.flat, List.mem_cons, List.mem_append] at hx
    rcases hx with rfl | hx | hx
    · exact g1
    · exact good_mem k o1 x hx
    · exact good_mem r r1 x hx
theorem good_v' {x : Cc} (h : goodC x = true) (h1 : x.k = 1) : 0 ≤ x.n ∧ x.n ≤ 30 := by
  unfold goodC at h
  rw [if_pos h1] at h
  simpa [inB] using h

theorem cv_at : ∀ (l : List Cc) (j : Nat) (u : Value), (cv l)[j]? = some u → ∃ i, ∃ h : i < l.length, (j = i * 2 ∧ u = .int .i64 l[i].k) ∨ (j = i * 2 + 1 ∧ u = .int .i64 l[i].n)
  | [], j, u, h => by simp [cv] at h
  | x :: l, 0, u, h => ⟨0, by simp, .inl ⟨rfl, by simpa [cv] using h.symm⟩⟩
  | x :: l, 1, u, h => ⟨0, by simp, .inr ⟨rfl, by simpa [cv] using h.symm⟩⟩
  | x :: l, j + 2, u, h => by
    obtain ⟨i, hi, h1 | h1⟩ := cv_at l j u (by simpa [cv] using h)
    · exact ⟨i + 1, by simp; omega, .inl ⟨by omega, by simpa using h1.2⟩⟩
    · exact ⟨i + 1, by simp; omega, .inr ⟨by omega, by simpa using h1.2⟩⟩

theorem cv_one : ∀ (l : List Cc), ∀ u ∈ cv l, u.oneCell' = true
  | [], u, h => by simp [cv] at h
  | x :: l, u, h => by
    simp only [cv, List.mem_cons] at h
    rcases h with rfl | rfl | h
    · rfl
    · rfl
    · exact cv_one l u h

theorem CRow.news {w : World} {b o : Nat} {l : List Cc} (h : CRow w (some ⟨b, o, none⟩) l) : ∀ j u, (cv l)[j]? = some u → w.cell? ((⟨b, o, none⟩ : Addr).add j) = some u := by
  intro j u hu
  obtain ⟨i, hi, hc⟩ := cv_at l j u hu
  obtain ⟨b', o', he, -, p0, p1⟩ := h.tok (Below.refl _ _) hi
  simp only [Option.some.injEq, Addr.mk.injEq] at he
  obtain ⟨rfl, rfl, -⟩ := he
  rw [iAdd]
  rcases hc with ⟨rfl, rfl⟩ | ⟨rfl, rfl⟩
  · exact p0
  · rw [← Nat.add_assoc]; exact p1

set_option maxRecDepth 20000 in
set_option maxHeartbeats 2000000 in
theorem cloneC_any (b o c : Nat) (l : List Cc) (w : World) (hl : l.length ≤ 1048576) (h : CRow w (some ⟨b, o, none⟩) l) :
    Calls Try.prog 23 #[.slice (some ⟨b, o, none⟩) l.length c] w fun e w' => ∃ v, e = .returned v ∧ w'.ownsRow w.heap.size 48 2 v l.length (cv l) ∧ Below w.heap.size w w' := by
  obtain ⟨i0, hi0, hz0, hz1, hz2⟩ := infoPartsT infoCe
  have Hi := hide hi0
  have HR := hide h
  clear hi0 h
  go_enter Try.func23, Try.ntmps23
  have hnil : ∀ w, (binOp .eql 24 (.slice (some ⟨b, o, none⟩) l.length c) (.slice none 0 0)).run Try.prog w = .ok (.bool false) w := fun w => by rw [Lib.run_eql_slice_nil w 24 48 _ _ _ _ _ Try.underlying24]; rfl
  have HO0 : Hid ((w.alloc (.cells #[] 48)).ownsRow w.heap.size 48 2 (.slice (some ⟨w.heap.size, 0, none⟩) 0 0) 0 []) := hide ⟨rfl, .inr ⟨w.heap.size, 0, #[], rfl, Nat.le_refl _, heap_alloc_new w _, Nat.le_refl _, by omega, rfl, rfl⟩⟩
  have HNw := hide (HR.out.below ((Below.refl _ _).alloc (Nat.le_refl _) (.cells #[] 48))).news
  have M1 : Hid (0 + l.length ≤ maxLen) := hide (by unfold maxLen; omega)
  have HCl := hide (cv_len l)
  have hbB : w.heap.size ≤ (w.alloc (.cells #[] 48)).heap.size := by simp
  go_wp2_with (at_builtin; refine wpList_append_own _ rfl _ _ 24 rfl w.heap.size 48 i0 (.agg #[.int .i64 0, .int .i64 0]) 2 16 Try.underlying24 Hi.out hz0 hz1 hz2 rfl (by decide) _ 0 [] rfl HO0.out ⟨b, o, none⟩ l.length c (cv l) rfl HCl.out HNw.out (cv_one l) M1.out (by omega) hbB ?_)
  intro v1 w1 hown1 hgrow1 _
  obtain ⟨ad1, c1', rfl⟩ := iOwn_form hown1
  have hB1 : Below w.heap.size w w1 := ((Below.refl _ _).alloc (Nat.le_refl _) _).grown hgrow1 hbB (fun k hk => by simp only [Value.ownBlock, Option.some.injEq] at hk; omega)
  have HO1 := hide hown1
  clear hown1 hgrow1
  go_wp2_with fail
  go_ret
  exact ⟨_, rfl, HO1.out, hB1⟩

/-- The row behind j rounds. -/
def rowAt (L : List Int) (l : List Cc) (j : Nat) : List Cc := (l.take j).map (rn L) ++ l.drop j
theorem rowAt_len (L : List Int) (l : List Cc) (j : Nat) : (rowAt L l j).length = l.length := by simp [rowAt]; omega
theorem rowAt_at (L : List Int) (l : List Cc) (j : Nat) (h : j < l.length) : (rowAt L l j)[j]? = some l[j] := by
  unfold rowAt
  rw [List.getElem?_append_right (by simp; omega)]
  simp [Nat.min_eq_left (Nat.le_of_lt h), h]
theorem rowAt_succ (L : List Int) (l : List Cc) (j : Nat) (h : j < l.length) : rowAt L l (j + 1) = (rowAt L l j).set j (rn L l[j]) := by
  unfold rowAt
  rw [List.take_succ_eq_append_getElem h, List.map_append, List.set_append_right _ _ (by simp; omega)]
  simp [Nat.min_eq_left (Nat.le_of_lt h)]
  rw [List.drop_eq_getElem_cons h]
  rfl
theorem rowAt_all (L : List Int) (l : List Cc) : rowAt L l l.length = l.map (rn L) := by simp [rowAt]
theorem set_self {α : Type} : ∀ (l : List α) (j : Nat) (x : α), l[j]? = some x → l.set j x = l
  | y :: l, 0, x, h => by simp at h; simp [h]
  | y :: l, j + 1, x, h => by simp at h; simp [set_self l j x (by simpa using h)]
  | [], j, x, h => by simp
theorem cv_set : ∀ (l : List Cc) (j : Nat) (x : Cc) (n : Int), l[j]? = some x → (cv l).set (j * 2 + 1) (.int .i64 n) = cv (l.set j ⟨x.k, n⟩)
  | y :: l, 0, x, n, h => by simp at h; subst h; rfl
  | y :: l, j + 1, x, n, h => by
    have := cv_set l j x n (by simpa using h)
    rw [show (j + 1) * 2 + 1 = (j * 2 + 1) + 1 + 1 by omega]
    simp [cv, this]
  | [], j, x, n, h => by simp at h

/-- The row lies in block g. -/
def RowIn (w : World) (g cap : Nat) (l : List Cc) : Prop := ∃ cur : Array Value, w.heap[g]? = some (.cells cur 48 (0, 0)) ∧ cur.size = cap * 2 ∧ l.length ≤ cap ∧ cur.toList.take (l.length * 2) = cv l
theorem RowIn.at {w : World} {g cap : Nat} {l : List Cc} (h : RowIn w g cap l) {j : Nat} {x : Cc} (hx : l[j]? = some x) : w.cell? ⟨g, j * 2, none⟩ = some (.int .i64 x.k) ∧ w.cell? ⟨g, j * 2 + 1, none⟩ = some (.int .i64 x.n) := by
  obtain ⟨cur, hh, h1, h2, h3⟩ := h
  obtain ⟨hj, rfl⟩ := List.getElem?_eq_some_iff.1 hx
  obtain ⟨a0, a1⟩ := cv_get l j hj
  have b : ∀ i, i < l.length * 2 → cur[i]? = (cv l)[i]? := fun i hi => by rw [← h3, List.getElem?_take_of_lt hi]; simp
  exact ⟨by rw [cell_of_blk hh, b _ (by omega)]; exact a0, by rw [cell_of_blk hh, b _ (by omega)]; exact a1⟩
theorem RowIn.set {w : World} {g cap : Nat} {l : List Cc} (h : RowIn w g cap l) {j : Nat} {x : Cc} (hx : l[j]? = some x) (n : Int) : RowIn (w.setCell ⟨g, j * 2 + 1, none⟩ (.int .i64 n)) g cap (l.set j ⟨x.k, n⟩) := by
  obtain ⟨cur, hh, h1, h2, h3⟩ := h
  refine ⟨_, blk_setCell hh _, by simpa using h1, by simpa using h2, ?_⟩
  rw [← cv_set l j x n hx, ← h3]
  rw [Array.toList_setIfInBounds, List.length_set, List.take_set]
theorem RowIn.keep {w w' : World} {g cap : Nat} {l : List Cc} (h : RowIn w g cap l) (hb : w'.heap[g]? = w.heap[g]?) : RowIn w' g cap l := by
  obtain ⟨cur, hh, h1⟩ := h
  exact ⟨cur, hb.trans hh, h1⟩
theorem RowIn.own {w : World} {g cap base : Nat} {l : List Cc} (h : RowIn w g cap l) (hb : base ≤ g) (hc : cap ≤ maxLen) : w.ownsRow base 48 2 (.slice (some ⟨g, 0, none⟩) l.length cap) l.length (cv l) := by
  obtain ⟨cur, hh, h1, h2, h3⟩ := h
  exact ⟨cv_len l, .inr ⟨g, cap, cur, rfl, hb, hh, h2, hc, h1, h3⟩⟩

set_option maxRecDepth 20000 in
set_option maxHeartbeats 4000000 in
theorem implTidy_any (ad : Option Addr) (c : Nat) (l : List Cc) (w : World) (hl : l.length ≤ 1048576) (h : CRow w ad l) :
    Calls Try.prog 8 #[.slice ad l.length c] w (RT w l) := by
  unfold RT
  have HG := hide (implGoodT_any ad c l w hl h)
  by_cases hg : goodT l = true
  · rw [hg] at HG ⊢
    have HE : Hid (tdL l = tidy l) := hide (by unfold tdL; rw [hg]; rfl)
    obtain ⟨a, hT⟩ : ∃ a, treeT l = some a := by unfold goodT at hg; exact Option.isSome_iff_exists.1 hg
    obtain ⟨t1, t2, t3, t4, -⟩ := treeT_flat hT
    obtain ⟨x0, k0, rfl⟩ := F.len_1 t3
    have hL30 := (tidy_tree hT).2
    have hgood : ∀ x ∈ l, goodC x = true := by rw [t1]; exact good_mem _ t2
    have hpos : 0 < l.length := by rw [t1]; simp [F.flat]
    obtain ⟨b, o, rfl, hRA⟩ : ∃ b o, ad = some ⟨b, o, none⟩ ∧ CRowAt w b o l := by
      rcases h with h | h
      · rw [h] at hpos; simp at hpos
      · exact h
    have HCl := hide (fun (w' : World) (hb : Below w.heap.size w w') => cloneC_any b o c l w' hl ((CRow.below (.inr ⟨b, o, rfl, hRA⟩) hb)))
    have HGd := hide hgood
    clear hg hT t1 t2 t3 hgood h hRA
    obtain ⟨L, hL⟩ : ∃ L, L = av [] l := ⟨_, rfl⟩
    have HLx : Hid (∀ j (hj : j < l.length), l[j].k = 1 → ∃ m, L = av1 (av [] (l.take j)) l[j] ++ m ∧ l[j].n ∈ av1 (av [] (l.take j)) l[j]) := hide (fun j hj hk => by
      have e : l = l.take (j + 1) ++ l.drop (j + 1) := (List.take_append_drop _ _).symm
      have e2 : av [] (l.take (j + 1)) = av1 (av [] (l.take j)) l[j] := by rw [List.take_succ_eq_append_getElem hj, av_app]; rfl
      obtain ⟨m, hm⟩ := av_ext (l.drop (j + 1)) (av [] (l.take (j + 1)))
      refine ⟨m, ?_, av1_mem _ hk⟩
      rw [hL, ← e2, ← hm, ← av_app, ← e])
    have HLe : Hid (∀ j, (av [] (l.take j)).length ≤ 60) := hide (fun j => by have := av_len (l.take j) []; simp at this; omega)
    have HLt : Hid (∀ j (hj : j < l.length), av [] (l.take (j + 1)) = av1 (av [] (l.take j)) l[j]) := hide (fun j hj => by rw [List.take_succ_eq_append_getElem hj, av_app]; rfl)
    have HTd : Hid (rowAt L l l.length = tidy l) := hide (by rw [rowAt_all, hL]; rfl)
    have hmm := @run_makeMap Try.prog
    clear hL
    go_enter Try.func8, Try.ntmps8
    go_wp2_with fail
    refine HG.out.mono ?_
    rintro e w1 ⟨rfl, hb1⟩
    go_wp2_with fail
    refine (HCl.out _ hb1).mono ?_
    rintro e w2 ⟨v, rfl, ho2, hb2⟩
    obtain ⟨-, ⟨-, h0⟩ | ⟨g, cap, cur, rfl, hgb, hh, hc1, hc2, hc3, hc4⟩⟩ := ho2
    · omega
    have hR2 : RowIn w2 g cap l := ⟨cur, hh, hc3, hc1, hc4⟩
    have hB2 : Below w.heap.size w w2 := hb1.trans (hb2.mono hb1.size)
    have hg2 : g < w2.heap.size := (Array.getElem?_eq_some_iff.1 hh).1
    have hgw : w.heap.size ≤ g := Nat.le_trans hb1.size hgb
    have HR2 := hide hR2
    clear hR2 hh hc3 hc4 hb2 hb1 hgb HCl HG
    go_wp2_with fail
    clear hmm
    have hB3 : Below w.heap.size w (w2.alloc (.map #[] 0)) := hB2.alloc hB2.size _
    have HN3 : Hid (NM (w2.alloc (.map #[] 0)) w2.heap.size []) := hide (NM.made w2)
    have HR3 : Hid (RowIn (w2.alloc (.map #[] 0)) g cap (rowAt L l 0)) := hide (by rw [show rowAt L l 0 = l by simp [rowAt]]; exact HR2.out.keep (heap_alloc_old _ _ hg2))
    obtain ⟨w3, hw3⟩ : ∃ w3, w3 = w2.alloc (.map #[] 0) := ⟨_, rfl⟩
    have hsz3 : w3.heap.size = w2.heap.size + 1 := by rw [hw3]; simp
    rw [← hw3] at hB3 HN3 HR3 ⊢
    clear hw3 HR2 hB2
    go_loopw [16] (fun i w' => ∃ j : Nat, j ≤ l.length ∧ i = .int .i64 j ∧ NM w' w2.heap.size (av [] (l.take j)) ∧ RowIn w' g cap (rowAt L l j) ∧ Below w.heap.size w w' ∧ w3.heap.size ≤ w'.heap.size) (fun i _ => l.length - (intOf i).toNat)
    case atStart => exact ⟨0, by omega, rfl, HN3.out, HR3.out, hB3, Nat.le_refl _⟩
    case round =>
      obtain ⟨j, hj, rfl, hN, hR, hB, hsz⟩ := hrel
      have HN := hide hN
      have HR := hide hR
      clear hN hR HN3 HR3 hB3
      by_cases hlt : j < l.length
      · have hlt' : (j : Int) < (l.length : Int) := by omega
        have hxat := rowAt_at L l j hlt
        have hgx := HGd.out _ (List.getElem_mem hlt)
        have hLx := HLx.out j hlt
        have hsucc := rowAt_succ L l j hlt
        have hLt := HLt.out j hlt
        obtain ⟨x, hx⟩ : ∃ x, x = l[j] := ⟨_, rfl⟩
        rw [← hx] at hxat hgx hLx hsucc hLt
        obtain ⟨p0, p1⟩ := HR.out.at hxat
        have HXat := hide hxat
        have HSucc := hide hsucc
        have HLt' := hide hLt
        have HGx := hide hgx
        clear hx hxat hsucc hLt hgx
        have hng : ¬ wr.heap.size = g := by omega
        by_cases hk : x.k = 1
        · obtain ⟨m, hm1, hm2⟩ := hLx hk
          have hn30 := good_v' HGx.out hk
          have hrn : rn L x = ⟨x.k, (((av1 (av [] (l.take j)) x).idxOf x.n : Nat) : Int)⟩ := by unfold rn; rw [if_pos hk, hm1, idx_ext m hm2]
          have HRn := hide hrn
          obtain ⟨xk, xn⟩ := x
          simp only at *
          subst hk
          have HC := hide (fun (w' : World) (h : NM w' w2.heap.size (av [] (l.take j))) => numberOf_any xn w2.heap.size _ w' hn30.1 hn30.2 (by have := HLe.out j; omega) h)
          rw [← HLt'.out] at HC HRn
          clear hLx hm1 hm2 hrn
          have HNa := hide (HN.out.kept (World.grownBy_alloc wr (.cells #[.int .i64 1, .int .i64 xn] 48) none) (by simp))
          obtain ⟨I, hI⟩ : ∃ I, I = (av [] (l.take (j + 1))).idxOf xn := ⟨_, rfl⟩
          rw [← hI] at HC HRn
          clear hI
          go_wp2_with fail
          refine (HC.out _ HNa.out).mono ?_
          rintro e w5 ⟨rfl, hN5, hg5⟩
          have hs5 := hg5.size
          simp at hs5
          have hgb5 : w5.heap[g]? = wr.heap[g]? := by rw [hg5.block g (by simp; omega) (by simp; omega)]; exact heap_alloc_old _ _ (by omega)
          have HR5 := hide (HR.out.keep hgb5)
          obtain ⟨c0, c1⟩ := HR5.out.at HXat.out
          have fz : ∀ i, w5.frozen? ⟨g, i, none⟩ = false := by obtain ⟨cur5, hh5, -⟩ := HR5.out; exact fun i => unfrozen_of_blk hh5 i
          have hB5 : Below w.heap.size w w5 := (hB.alloc hB.size _).grown hg5 (by simp; have := hB.size; omega) (fun k hk => by simp at hk; omega)
          have HN5 := hide hN5
          clear hN5 hg5 p0 p1 HC
          go_wp2_with fail
          have hR6 := HR5.out.set HXat.out (I : Int)
          refine ⟨⟨j + 1, by omega, by go_num, ?_, ?_, hB5.setCell (p := ⟨g, j * 2 + 1, none⟩) hgw _, by simp [World.setCell]; omega⟩, by simp [intOf]; omega⟩
          · exact HN5.out.kept (row := some g) ⟨rfl, rfl, rfl, by simp [World.setCell], fun k _ hne => Below.heap_setCell _ _ _ _ (fun e => hne (by rw [e]))⟩ (by simp; omega)
          · rw [HSucc.out, HRn.out]; exact hR6
        · have hrn : rn L x = x := by unfold rn; rw [if_neg hk]
          have HRow : Hid (rowAt L l (j + 1) = rowAt L l j) := hide (by rw [HSucc.out, hrn]; exact set_self _ _ _ HXat.out)
          have HAv : Hid (av [] (l.take (j + 1)) = av [] (l.take j)) := hide (by rw [HLt'.out]; exact av1_no hk)
          have hkb : (x.k == 1) = false := by simpa using hk
          clear hLx hrn
          go_wp2_with fail
          refine ⟨⟨j + 1, by omega, by go_num, ?_, ?_, hB.alloc hB.size _, by simp; omega⟩, by simp [intOf]; omega⟩
          · rw [HAv.out]; exact HN.out.kept (World.grownBy_alloc wr _ none) (by simp)
          · rw [HRow.out]; exact HR.out.keep (heap_alloc_old _ _ (by omega))
      · obtain rfl : j = l.length := by omega
        have hfin : wr.ownsRow w.heap.size 48 2 (.slice (some ⟨g, 0, none⟩) l.length cap) (tdL l).length (cv (tdL l)) := by
          have h1 := HR.out.own hgw hc2
          rw [rowAt_len] at h1
          rw [HE.out, ← HTd.out, rowAt_len]
          exact h1
        have HF := hide hfin
        clear hfin
        go_wp2_with fail
        exact bodyPost_ret (v := .tuple #[.slice (some ⟨g, 0, none⟩) l.length cap, .bool true]) (by simp [results, Try.results8, go_sem]) rfl ⟨_, rfl, HF.out, hB⟩
  · rw [Bool.not_eq_true] at hg
    have HE : Hid (tdL l = []) := hide (by unfold tdL; rw [hg]; rfl)
    rw [hg] at HG ⊢
    clear hg h
    go_enter Try.func8, Try.ntmps8
    go_wp2_with fail
    refine HG.out.mono ?_
    rintro e w1 ⟨rfl, hb1⟩
    go_wp2_with fail
    exact bodyPost_ret (v := .tuple #[.slice none 0 0, .bool false]) (by simp [results, Try.results8, go_sem]) rfl ⟨_, rfl, by rw [HE.out]; exact World.ownsRow_nil _ _ _ _, hb1⟩
end Go.Proofs.Ytjffignbiabmaac.Y

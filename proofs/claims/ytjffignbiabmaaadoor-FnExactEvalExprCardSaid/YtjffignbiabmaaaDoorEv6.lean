/-
  Numbers of expressions, the specification's: the contract of l2Eval. Conditions: the numbers are in the bound; at most 20 names.
-/
import Derived.Test.YtjffignbiabmaaaDoorEv5
namespace Go.Proofs.YtjffignbiabmaaaDoor.W
open Go.ChangeShapes Go.WideShapes Go.ChangeAt Go.RowKit
set_option linter.unusedVariables false

set_option maxRecDepth 20000 in
set_option maxHeartbeats 4000000 in
theorem l2Eval_two (adn adv : Option Addr) (cn cv : Nat) (ns : List ByteArray) (vs : List Int) (hv : ∀ v ∈ vs, bdB v = true) (x : Xx) (a b : E) (iha : L2EGoal adn adv cn cv ns vs a) (ihb : L2EGoal adn adv cn cv ns vs b) : L2EGoal adn adv cn cv ns vs (.two x a b) := by
  intro hok s lo w hT hN hV
  obtain ⟨hg, hb2, hoa, hob⟩ := hok
  obtain ⟨sad, sc, rfl, hkid⟩ := TrK.kid hT
  obtain ⟨g, sa, rfl, hgl, hTa, p0, p1, p2, p3⟩ := hkid 0 (by simp [E.kids])
  obtain ⟨g', sb, he, -, hTb, q0, q1, q2, q3⟩ := hkid 1 (by simp [E.kids])
  have hgg : g = g' := by simp only [Option.some.injEq, Addr.mk.injEq] at he; exact he.1
  subst hgg
  have hba := ev_bd (ns := ns) hv a hoa
  have hbb := ev_bd (ns := ns) hv b hob
  have hk5 := behind_2 hb2
  have hst : strN x.t ≠ 0 := by simp [goodX, hk5] at hg; exact hg.2
  have hev : ev ns vs (.two x a b) = if (ev ns vs a).2 ≠ 0 then (0, (ev ns vs a).2)
    else if x.t.toList = [38, 38] ∧ (ev ns vs a).1 = 0 then (0, 0)
    else if x.t.toList = [124, 124] ∧ (ev ns vs a).1 ≠ 0 then (1, 0)
    else if (ev ns vs b).2 ≠ 0 then (0, (ev ns vs b).2)
    else if x.t.toList = [38, 38] ∨ x.t.toList = [124, 124] then (tr ((ev ns vs b).1 != 0), 0)
    else do2 x.t.toList (ev ns vs a).1 (ev ns vs b).1 := rfl
  rw [hev]
  have hhd : (E.two x a b).head = x := rfl
  have hka : (E.two x a b).kids[0]'(by simp [E.kids]) = a := rfl
  have hkb : (E.two x a b).kids[1]'(by simp [E.kids]) = b := rfl
  rw [hka] at hTa p0 p1 p2
  rw [hkb] at hTb q0 q1 q2
  have hkl : (E.two x a b).kids.length = 2 := rfl
  rw [hhd, hkl]
  have HIA := hide (fun (w' : World) (hw' : Below w.heap.size w w') => iha hoa sa lo w' (hTa.below hw') (hN.below hw') (hV.below hw'))
  have HIB := hide (fun (w' : World) (hw' : Below w.heap.size w w') => ihb hob sb lo w' (hTb.below hw') (hN.below hw') (hV.below hw'))
  obtain ⟨aad, ac, rfl, -⟩ := TrK.kid hTa
  obtain ⟨bad, bc, rfl, -⟩ := TrK.kid hTb
  obtain ⟨AK, hAK⟩ : ∃ AK, AK = a.kids.length := ⟨_, rfl⟩
  obtain ⟨BK, hBK⟩ : ∃ BK, BK = b.kids.length := ⟨_, rfl⟩
  rw [← hAK] at HIA p3
  rw [← hBK] at HIB q3
  obtain ⟨ra, hra⟩ : ∃ ra, ra = ev ns vs a := ⟨_, rfl⟩
  obtain ⟨rb, hrb⟩ : ∃ rb, rb = ev ns vs b := ⟨_, rfl⟩
  rw [← hra] at HIA hba ⊢
  rw [← hrb] at HIB hbb ⊢
  obtain ⟨ha, hha⟩ : ∃ ha, ha = a.head := ⟨_, rfl⟩
  obtain ⟨hb, hhb⟩ : ∃ hb, hb = b.head := ⟨_, rfl⟩
  rw [← hha] at HIA p0 p1 p2
  rw [← hhb] at HIB q0 q1 q2
  clear hT hkid hev hhd hka hkb hkl hTa hTb hN hV hAK hBK hra hrb hha hhb hg hb2 iha ihb he
  simp only [Nat.zero_mul, Nat.zero_add, Nat.one_mul] at p0 p1 p2 p3 q0 q1 q2 q3
  obtain ⟨k, n, t⟩ := x
  obtain ⟨na, ca⟩ := ra
  obtain ⟨nb, cb⟩ := rb
  obtain ⟨hk1, hn1, ht1⟩ := ha
  obtain ⟨hk2, hn2, ht2⟩ := hb
  simp only at *
  subst hk5
  obtain ⟨R, hR⟩ : ∃ R, R = (if ca ≠ 0 then (0, ca)
    else if t.toList = [38, 38] ∧ na = 0 then (0, 0)
    else if t.toList = [124, 124] ∧ na ≠ 0 then (1, 0)
    else if cb ≠ 0 then (0, cb)
    else if t.toList = [38, 38] ∨ t.toList = [124, 124] then (tr (nb != 0), 0)
    else do2 t.toList na nb : Int × Int) := ⟨_, rfl⟩
  rw [← hR]
  have HRr := hide hR
  clear hR
  obtain ⟨W0, hW0⟩ : ∃ W0 : Obj, W0 = .cells #[.int .i64 5, .int .i64 n, .string t, .slice (some ⟨g, 0, none⟩) 2 sc] 79 := ⟨_, rfl⟩
  have hB0 : Below w.heap.size w (w.alloc W0) := (Below.refl _ _).alloc (Nat.le_refl _) _
  have HBx : Hid (∀ w1, Below (w.alloc W0).heap.size (w.alloc W0) w1 → Below w.heap.size w w1 ∧ w.heap.size < w1.heap.size ∧ w1.cell? ⟨w.heap.size, 0, none⟩ = some (.int .i64 5) ∧ w1.cell? ⟨w.heap.size, 2, none⟩ = some (.string t) ∧ w1.cell? ⟨w.heap.size, 3, none⟩ = some (.slice (some ⟨g, 0, none⟩) 2 sc) ∧ w1.cell? ⟨g, 4, none⟩ = some (.int .i64 hk2) ∧ w1.cell? ⟨g, 5, none⟩ = some (.int .i64 hn2) ∧ w1.cell? ⟨g, 6, none⟩ = some (.string ht2) ∧ w1.cell? ⟨g, 7, none⟩ = some (.slice bad BK bc)) := hide (fun w1 h1 => by
    have hBw := hB0.trans (h1.mono hB0.size)
    have hs : w.heap.size < (w.alloc W0).heap.size := by simp
    have hc : ∀ i, w1.cell? ⟨w.heap.size, i, none⟩ = (#[.int .i64 5, .int .i64 n, .string t, .slice (some ⟨g, 0, none⟩) 2 sc] : Array Value)[i]? := fun i => by rw [h1.cell (p := ⟨w.heap.size, i, none⟩) hs, hW0, cell_of_blk (heap_alloc_new w _)]
    exact ⟨hBw, Nat.lt_of_lt_of_le hs h1.size, (hc 0).trans rfl, (hc 2).trans rfl, (hc 3).trans rfl, (hBw.cell (p := ⟨g, 4, none⟩) hgl).trans q0, (hBw.cell (p := ⟨g, 5, none⟩) hgl).trans q1, (hBw.cell (p := ⟨g, 6, none⟩) hgl).trans q2, (hBw.cell (p := ⟨g, 7, none⟩) hgl).trans q3⟩)
  have HIA1 := hide (HIA.out _ hB0)
  clear HIA hB0 q0 q1 q2 q3
  rw [hW0] at HIA1 HBx
  clear hW0
  have HDo : Hid (t.toList ≠ [38, 38] → t.toList ≠ [124, 124] → ∀ w', Calls Tryd.prog 102 #[.string t, .int .i64 na, .int .i64 nb] w' fun e w'' => e = .returned (.tuple #[.int .i64 (do1 t.toList na nb).1, .int .i64 (do1 t.toList na nb).2]) ∧ w'' = w') := hide (fun h1 h2 w' => l2Do_other t na nb w' hst h1 h2 hba hbb)
  have HD12 := hide (do12 hba t.toList nb)
  go_enter Tryd.func60, Tryd.ntmps60
  go_wp2_with fail
  refine Calls.mono HIA1.out ?_
  rintro e w1 ⟨rfl, hb1⟩
  obtain ⟨hB1, hs1, e0, e2, e3, f0, f1, f2, f3⟩ := HBx.out w1 hb1
  clear HIA1 HBx hb1 p0 p1 p2 p3
  by_cases hca : ca = 0
  · subst hca
    have HIB1 := hide (HIB.out w1 hB1)
    by_cases hand : t.toList = [38, 38]
    · have hor : ¬ t.toList = [124, 124] := by rw [hand]; decide
      by_cases hn0 : na = 0
      · subst hn0
        have hRe : R = (0, 0) := by rw [HRr.out]; simp [hand]
        subst hRe
        clear HRr HIB HIB1 HDo HD12
        go_wp2_with fail
        go_ret2
        exact ⟨rfl, hB1⟩
      · have hnb : (na == 0) = false := by simpa using hn0
        have hnb' : (na != 0) = true := by simp [hn0]
        by_cases hcb : cb = 0
        · subst hcb
          have hRe : R = (tr (nb != 0), 0) := by rw [HRr.out]; simp [hand, hn0]
          subst hRe
          clear HRr HIB HDo HD12
          go_wp2_with fail
          refine Calls.mono HIB1.out ?_
          rintro e w2 ⟨rfl, hb2⟩
          have e2' := (hb2.cell (p := ⟨w.heap.size, 2, none⟩) hs1).trans e2
          have hB2 := hB1.trans (hb2.mono hB1.size)
          clear hb2 HIB1 f0 f1 f2 f3 e0 e2 e3
          go_wp2_with fail
          refine (l2Truth_any _ _).mono ?_
          rintro e w3 ⟨rfl, rfl⟩
          go_wp2_with fail
          go_ret2
          exact ⟨rfl, hB2⟩
        · have hRe : R = (0, cb) := by rw [HRr.out]; simp [hand, hn0, hcb]
          subst hRe
          have hcb1 : (cb == 0) = false := by simpa using hcb
          have hcb2 : (cb != 0) = true := by simp [hcb]
          clear HRr HIB HDo HD12
          go_wp2_with fail
          refine Calls.mono HIB1.out ?_
          rintro e w2 ⟨rfl, hb2⟩
          have hB2 := hB1.trans (hb2.mono hB1.size)
          clear hb2 HIB1 f0 f1 f2 f3 e0 e2 e3
          go_wp2_with fail
          go_ret2
          exact ⟨rfl, hB2⟩
    · by_cases hor : t.toList = [124, 124]
      · by_cases hn0 : na = 0
        · subst hn0
          by_cases hcb : cb = 0
          · subst hcb
            have hRe : R = (tr (nb != 0), 0) := by rw [HRr.out]; simp [hor]
            subst hRe
            clear HRr HIB HDo HD12
            go_wp2_with fail
            refine Calls.mono HIB1.out ?_
            rintro e w2 ⟨rfl, hb2⟩
            have e2' := (hb2.cell (p := ⟨w.heap.size, 2, none⟩) hs1).trans e2
            have hB2 := hB1.trans (hb2.mono hB1.size)
            clear hb2 HIB1 f0 f1 f2 f3 e0 e2 e3
            go_wp2_with fail
            refine (l2Truth_any _ _).mono ?_
            rintro e w3 ⟨rfl, rfl⟩
            go_wp2_with fail
            go_ret2
            exact ⟨rfl, hB2⟩
          · have hRe : R = (0, cb) := by rw [HRr.out]; simp [hor, hcb]
            subst hRe
            have hcb1 : (cb == 0) = false := by simpa using hcb
            have hcb2 : (cb != 0) = true := by simp [hcb]
            clear HRr HIB HDo HD12
            go_wp2_with fail
            refine Calls.mono HIB1.out ?_
            rintro e w2 ⟨rfl, hb2⟩
            have hB2 := hB1.trans (hb2.mono hB1.size)
            clear hb2 HIB1 f0 f1 f2 f3 e0 e2 e3
            go_wp2_with fail
            go_ret2
            exact ⟨rfl, hB2⟩
        · have hnb : (na == 0) = false := by simpa using hn0
          have hnb' : (na != 0) = true := by simp [hn0]
          have hRe : R = (1, 0) := by rw [HRr.out]; simp [hor, hn0]
          subst hRe
          clear HRr HIB HIB1 HDo HD12
          go_wp2_with fail
          go_ret2
          exact ⟨rfl, hB1⟩
      · have hand' : (t.toList == [38, 38]) = false := by simpa using hand
        have hor' : (t.toList == [124, 124]) = false := by simpa using hor
        by_cases hcb : cb = 0
        · subst hcb
          have hRe : R = do2 t.toList na nb := by rw [HRr.out]; simp [hor, hand]
          have HRe := hide (hRe.trans HD12.out)
          have HDo1 := hide (HDo.out hand hor)
          obtain ⟨D, hD⟩ : ∃ D, D = do1 t.toList na nb := ⟨_, rfl⟩
          rw [← hD] at HRe HDo1
          clear HRr HIB HDo HD12 hRe hD
          obtain ⟨dn, dc⟩ := D
          simp only at HRe HDo1
          go_wp2_with fail
          refine Calls.mono HIB1.out ?_
          rintro e w2 ⟨rfl, hb2⟩
          have e2' := (hb2.cell (p := ⟨w.heap.size, 2, none⟩) hs1).trans e2
          have hB2 := hB1.trans (hb2.mono hB1.size)
          clear hb2 HIB1 f0 f1 f2 f3 e0 e2 e3
          go_wp2_with fail
          refine (HDo1.out _).mono ?_
          rintro e w3 ⟨rfl, rfl⟩
          by_cases hdc : dc = 0
          · subst hdc
            have HLB := hide (l2Bound_any dn)
            cases hbd : bdB dn with
            | true =>
              rw [hbd] at HLB
              have hR2 : R = (dn, 0) := by rw [HRe.out]; simp [hbd]
              subst hR2
              clear HRe hbd
              go_wp2_with fail
              refine (HLB.out _).mono ?_
              rintro e w4 ⟨rfl, rfl⟩
              go_wp2_with fail
              go_ret2
              exact ⟨rfl, hB2⟩
            | false =>
              rw [hbd] at HLB
              have hR2 : R = (0, 3) := by rw [HRe.out]; simp [hbd]
              subst hR2
              clear HRe hbd
              go_wp2_with fail
              refine (HLB.out _).mono ?_
              rintro e w4 ⟨rfl, rfl⟩
              go_wp2_with fail
              go_ret2
              exact ⟨rfl, hB2⟩
          · have hR2 : R = (dn, dc) := by rw [HRe.out]; simp [hdc]
            subst hR2
            have hdb : (dc == 0) = false := by simpa using hdc
            clear HRe
            go_wp2_with fail
            go_ret2
            exact ⟨rfl, hB2⟩
        · have hRe : R = (0, cb) := by rw [HRr.out]; simp [hor, hand, hcb]
          subst hRe
          have hcb1 : (cb == 0) = false := by simpa using hcb
          have hcb2 : (cb != 0) = true := by simp [hcb]
          clear HRr HIB HDo HD12
          go_wp2_with fail
          refine Calls.mono HIB1.out ?_
          rintro e w2 ⟨rfl, hb2⟩
          have hB2 := hB1.trans (hb2.mono hB1.size)
          clear hb2 HIB1 f0 f1 f2 f3 e0 e2 e3
          go_wp2_with fail
          go_ret2
          exact ⟨rfl, hB2⟩
  · have hRe : R = (0, ca) := by rw [HRr.out]; simp [hca]
    subst hRe
    have hcb1 : (ca == 0) = false := by simpa using hca
    have hcb2 : (ca != 0) = true := by simp [hca]
    clear HRr HIB HDo HD12
    go_wp2_with fail
    go_ret2
    exact ⟨rfl, hB1⟩

theorem l2Eval_any (adn adv : Option Addr) (cn cv : Nat) (ns : List ByteArray) (vs : List Int) (hv : ∀ v ∈ vs, bdB v = true) (hn : ns.length ≤ 20) (hnv : ns.length = vs.length) : ∀ e : E, L2EGoal adn adv cn cv ns vs e
  | .leaf x => l2Eval_leaf adn adv cn cv ns vs hn hnv x
  | .one x a => l2Eval_one adn adv cn cv ns vs hv x a (l2Eval_any adn adv cn cv ns vs hv hn hnv a)
  | .two x a b => l2Eval_two adn adv cn cv ns vs hv x a b (l2Eval_any adn adv cn cv ns vs hv hn hnv a) (l2Eval_any adn adv cn cv ns vs hv hn hnv b)
end Go.Proofs.YtjffignbiabmaaaDoor.W

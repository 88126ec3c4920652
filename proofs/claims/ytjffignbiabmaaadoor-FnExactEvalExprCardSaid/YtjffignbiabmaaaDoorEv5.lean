/-
  Numbers of expressions, the specification's: the contract of l2Eval. Conditions: the numbers are in the bound; at most 20 names.
-/
import Derived.Test.YtjffignbiabmaaaDoorEv3
namespace Go.Proofs.YtjffignbiabmaaaDoor.W
open Go.ChangeShapes Go.WideShapes Go.ChangeAt Go.RowKit
set_option linter.unusedVariables false

theorem do12 {a : Int} (ha : bdB a = true) (s : List UInt8) (b : Int) : do2 s a b = if (do1 s a b).2 = 0 ∧ bdB (do1 s a b).1 = false then (0, 3) else do1 s a b := by
  have ha' := bdB_iff.1 ha
  have hbd : ∀ n : Int, bd n = if True ∧ bdB n = false then (0, 3) else (n, 0) := fun n => by
    unfold bd
    cases h : bdB n <;> simp
  have hin : ∀ n : Int, bdB n = true → (n, (0 : Int)) = if True ∧ bdB n = false then (0, 3) else (n, 0) := fun n h => by simp [h]
  by_cases h0 : s = [43]
  · simp only [do2, do1, if_pos h0]
    exact hbd _
  by_cases h1 : s = [45]
  · simp only [do2, do1, if_neg h0, if_pos h1]
    exact hbd _
  by_cases h2 : s = [42]
  · simp only [do2, do1, if_neg h0, if_neg h1, if_pos h2]
    exact hbd _
  by_cases h3 : s = [60]
  · simp only [do2, do1, if_neg h0, if_neg h1, if_neg h2, if_pos h3]
    exact hin _ (tr_bd _)
  by_cases h4 : s = [60, 61]
  · simp only [do2, do1, if_neg h0, if_neg h1, if_neg h2, if_neg h3, if_pos h4]
    exact hin _ (tr_bd _)
  by_cases h5 : s = [61, 61]
  · simp only [do2, do1, if_neg h0, if_neg h1, if_neg h2, if_neg h3, if_neg h4, if_pos h5]
    exact hin _ (tr_bd _)
  by_cases h6 : s = [33, 61]
  · simp only [do2, do1, if_neg h0, if_neg h1, if_neg h2, if_neg h3, if_neg h4, if_neg h5, if_pos h6]
    exact hin _ (tr_bd _)
  by_cases h7 : s = [60, 60]
  · simp only [do2, do1, if_neg h0, if_neg h1, if_neg h2, if_neg h3, if_neg h4, if_neg h5, if_neg h6, if_pos h7]
    by_cases h8 : 0 ≤ b ∧ b ≤ 20
    · simp only [if_pos h8]; exact hbd _
    · simp only [if_neg h8]; simp
  by_cases h9 : b = 0
  · simp only [do2, do1, if_neg h0, if_neg h1, if_neg h2, if_neg h3, if_neg h4, if_neg h5, if_neg h6, if_neg h7, if_pos h9]; simp
  by_cases h10 : s = [47]
  · simp only [do2, do1, if_neg h0, if_neg h1, if_neg h2, if_neg h3, if_neg h4, if_neg h5, if_neg h6, if_neg h7, if_neg h9, if_pos h10]
    exact hin _ (bdB_iff.2 (tdiv_bd b ha'.1 ha'.2))
  · simp only [do2, do1, if_neg h0, if_neg h1, if_neg h2, if_neg h3, if_neg h4, if_neg h5, if_neg h6, if_neg h7, if_neg h9, if_neg h10]
    exact hin _ (bdB_iff.2 (tmod_bd b ha'.1 ha'.2))

def L2EGoal (adn adv : Option Addr) (cn cv : Nat) (ns : List ByteArray) (vs : List Int) (e : E) : Prop := e.ok → ∀ (s : Value) (lo : Nat) (w : World), TrK w lo e s → CR w adn (ns.map Value.string) → CR w adv (vs.map (Value.int .i64)) →
    Calls Tryd.prog 60 #[.agg #[.int .i64 e.head.k, .int .i64 e.head.n, .string e.head.t, s], .slice adn ns.length cn, .slice adv vs.length cv] w fun x w' => x = .returned (.tuple #[.int .i64 (ev ns vs e).1, .int .i64 (ev ns vs e).2]) ∧ Below w.heap.size w w'

set_option maxRecDepth 20000 in
set_option maxHeartbeats 4000000 in
theorem l2Eval_leaf (adn adv : Option Addr) (cn cv : Nat) (ns : List ByteArray) (vs : List Int) (hn : ns.length ≤ 20) (hnv : ns.length = vs.length) (x : Xx) : L2EGoal adn adv cn cv ns vs (.leaf x) := by
  intro hok s lo w hT hN hV
  obtain ⟨hg, hb0⟩ := hok
  obtain ⟨sad, sc, rfl, -⟩ := TrK.kid hT
  have hk := behind_0 hg hb0
  have hev : ev ns vs (.leaf x) = if x.k = 1 then (x.n, 0) else lookN ns vs x.t := rfl
  rw [hev]
  have hhd : (E.leaf x).head = x := rfl
  rw [hhd]
  clear hT hev hhd hg hb0
  obtain ⟨k, n, t⟩ := x
  simp only at *
  rcases hk with rfl | rfl
  · rw [if_pos rfl]
    clear hN hV
    go_enter Tryd.func60, Tryd.ntmps60
    go_wp2_with fail
    go_ret2
    exact ⟨rfl, (Below.refl _ _).alloc (Nat.le_refl _) _⟩
  · rw [if_neg (by decide)]
    obtain ⟨R, hR⟩ : ∃ R, R = lookN ns vs t := ⟨_, rfl⟩
    rw [← hR]
    have HRr := hide hR
    have HN := hide hN
    have HV := hide hV
    clear hR hN hV
    go_enter Tryd.func60, Tryd.ntmps60
    go_wp2_with fail
    obtain ⟨w0, hw0⟩ : ∃ w0, w0 = w.alloc (.cells #[.int .i64 2, .int .i64 n, .string t, .slice sad (E.leaf ⟨2, n, t⟩).kids.length sc] 79) := ⟨_, rfl⟩
    have hB0 : Below w.heap.size w w0 := by rw [hw0]; exact (Below.refl _ _).alloc (Nat.le_refl _) _
    have a2 : w0.cell? ⟨w.heap.size, 2, none⟩ = some (.string t) := by rw [hw0, cell_of_blk (heap_alloc_new w _)]; rfl
    have hsz0 : w.heap.size < w0.heap.size := by rw [hw0]; simp
    rw [← hw0]
    clear hw0
    go_loopw [26] (fun i w' => ∃ j : Nat, j ≤ ns.length ∧ i = .int .i64 j ∧ R = lookN (ns.drop j) (vs.drop j) t ∧ w' = w0) (fun i _ => ns.length - (intOf i).toNat)
    case atStart => exact ⟨0, by omega, rfl, HRr.out, rfl⟩
    case round =>
      obtain ⟨j, hj, rfl, hR, rfl⟩ := hrel
      by_cases hlt : j < ns.length
      · have hlt' : (j : Int) < (ns.length : Int) := by omega
        have hltv : j < vs.length := by omega
        have hltv' : (j : Int) < (vs.length : Int) := by omega
        rw [lookN_step ns vs t j hlt hltv] at hR
        obtain ⟨b, o, rfl, hb, q⟩ := (HN.out.below hB0).at (i := j) (by simpa using hlt)
        obtain ⟨b', o', rfl, hb', q'⟩ := (HV.out.below hB0).at (i := j) (by simpa using hltv)
        rw [List.getElem_map] at q q'
        obtain ⟨X, hX⟩ : ∃ X, X = ns[j] := ⟨_, rfl⟩
        obtain ⟨V, hV⟩ : ∃ V, V = vs[j] := ⟨_, rfl⟩
        rw [← hX] at q hR
        rw [← hV] at q' hR
        have HR2 := hide hR
        clear hX hV hR
        by_cases heq : (X.toList == t.toList) = true
        · go_wp2_with fail
          go_ret2
          have e : R = (V, 0) := by rw [HR2.out, if_pos heq]
          exact ⟨by rw [e]; rfl, hB0⟩
        · rw [Bool.not_eq_true] at heq
          go_wp2_with fail
          refine ⟨⟨j + 1, by omega, by go_num, ?_, trivial⟩, by simp [intOf]; omega⟩
          rw [HR2.out, if_neg (by rw [heq]; simp)]
      · obtain rfl : j = ns.length := by omega
        have e : R = (0, 1) := by rw [hR, List.drop_length]; cases (vs.drop ns.length) <;> rfl
        have He := hide e
        clear hR e
        go_wp2_with fail
        go_ret2
        exact ⟨by rw [He.out]; rfl, hB0⟩

set_option maxRecDepth 20000 in
set_option maxHeartbeats 4000000 in
theorem l2Eval_one (adn adv : Option Addr) (cn cv : Nat) (ns : List ByteArray) (vs : List Int) (hv : ∀ v ∈ vs, bdB v = true) (x : Xx) (a : E) (iha : L2EGoal adn adv cn cv ns vs a) : L2EGoal adn adv cn cv ns vs (.one x a) := by
  intro hok s lo w hT hN hV
  obtain ⟨hg, hb1, hoa⟩ := hok
  obtain ⟨sad, sc, rfl, hkid⟩ := TrK.kid hT
  obtain ⟨g, sa, rfl, hgl, hTa, p0, p1, p2, p3⟩ := hkid 0 (by simp [E.kids])
  have hba := ev_bd (ns := ns) hv a hoa
  have hev : ev ns vs (.one x a) = if (ev ns vs a).2 ≠ 0 then (0, (ev ns vs a).2) else if x.k = 3 then (-(ev ns vs a).1, 0) else (tr ((ev ns vs a).1 == 0), 0) := rfl
  rw [hev]
  have hk := behind_1 hb1
  have hhd : (E.one x a).head = x := rfl
  have hka : (E.one x a).kids[0]'(by simp [E.kids]) = a := rfl
  rw [hka] at hTa p0 p1 p2
  have hkl : (E.one x a).kids.length = 1 := rfl
  rw [hhd, hkl]
  have HIA := hide (fun (w' : World) (hw' : Below w.heap.size w w') => iha hoa sa lo w' (hTa.below hw') (hN.below hw') (hV.below hw'))
  obtain ⟨aad, ac, rfl, -⟩ := TrK.kid hTa
  obtain ⟨AK, hAK⟩ : ∃ AK, AK = a.kids.length := ⟨_, rfl⟩
  rw [← hAK] at HIA p3
  obtain ⟨ra, hra⟩ : ∃ ra, ra = ev ns vs a := ⟨_, rfl⟩
  rw [← hra] at HIA hba ⊢
  obtain ⟨ha, hha⟩ : ∃ ha, ha = a.head := ⟨_, rfl⟩
  rw [← hha] at HIA p0 p1 p2
  clear hT hkid hev hhd hka hkl hTa hN hV hAK hra hha hg hb1 iha
  simp only [Nat.zero_mul, Nat.zero_add] at p0 p1 p2 p3
  obtain ⟨k, n, t⟩ := x
  obtain ⟨na, ca⟩ := ra
  obtain ⟨hk1, hn1, ht1⟩ := ha
  simp only at *
  have hna := bdB_iff.1 hba
  obtain ⟨hna1, hna2⟩ := hna
  have HB0 : Hid (∀ o : Obj, Below w.heap.size w (w.alloc o)) := hide (fun o => (Below.refl _ _).alloc (Nat.le_refl _) _)
  by_cases hca : ca = 0
  · subst hca
    rw [if_neg (by simp)]
    rcases hk with rfl | rfl
    · rw [if_pos rfl]
      go_enter Tryd.func60, Tryd.ntmps60
      go_wp2_with fail
      refine Calls.mono (HIA.out _ (HB0.out _)) ?_
      rintro e w1 ⟨rfl, hb1⟩
      have c0 : w1.cell? ⟨w.heap.size, 0, none⟩ = some (.int .i64 3) := by rw [hb1.cell (p := ⟨w.heap.size, 0, none⟩) (by simp), cell_of_blk (heap_alloc_new w _)]; rfl
      have hB1 := (HB0.out (.cells #[.int .i64 3, .int .i64 n, .string t, .slice (some ⟨g, 0, none⟩) 1 sc] 79)).trans (hb1.mono (HB0.out _).size)
      clear hb1 HIA p0 p1 p2 p3
      go_wp2_with fail
      go_ret2
      exact ⟨rfl, hB1⟩
    · rw [if_neg (by decide)]
      go_enter Tryd.func60, Tryd.ntmps60
      go_wp2_with fail
      refine Calls.mono (HIA.out _ (HB0.out _)) ?_
      rintro e w1 ⟨rfl, hb1⟩
      have c0 : w1.cell? ⟨w.heap.size, 0, none⟩ = some (.int .i64 4) := by rw [hb1.cell (p := ⟨w.heap.size, 0, none⟩) (by simp), cell_of_blk (heap_alloc_new w _)]; rfl
      have hB1 := (HB0.out (.cells #[.int .i64 4, .int .i64 n, .string t, .slice (some ⟨g, 0, none⟩) 1 sc] 79)).trans (hb1.mono (HB0.out _).size)
      clear hb1 HIA p0 p1 p2 p3
      go_wp2_with fail
      refine (l2Truth_any _ _).mono ?_
      rintro e w2 ⟨rfl, rfl⟩
      go_wp2_with fail
      go_ret2
      exact ⟨rfl, hB1⟩
  · rw [if_pos hca]
    have hcb : (ca == 0) = false := by simpa using hca
    have hcb' : (ca != 0) = true := by simp [hca]
    have hk12 : ¬ k = 1 ∧ ¬ k = 2 := by omega
    have hkb1 : (k == 1) = false := by simpa using hk12.1
    have hkb2 : (k == 2) = false := by simpa using hk12.2
    clear hk hk12
    go_enter Tryd.func60, Tryd.ntmps60
    go_wp2_with fail
    refine Calls.mono (HIA.out _ (HB0.out _)) ?_
    rintro e w1 ⟨rfl, hb1⟩
    have hB1 := (HB0.out (.cells #[.int .i64 k, .int .i64 n, .string t, .slice (some ⟨g, 0, none⟩) 1 sc] 79)).trans (hb1.mono (HB0.out _).size)
    clear hb1 HIA p0 p1 p2 p3
    go_wp2_with fail
    go_ret2
    exact ⟨rfl, hB1⟩
end Go.Proofs.YtjffignbiabmaaaDoor.W

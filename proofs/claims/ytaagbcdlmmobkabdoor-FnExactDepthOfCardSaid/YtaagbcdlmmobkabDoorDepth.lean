/-
  DepthOf, of the program and of its specification: how many parts lie within one another. Conditions: rows of at most 1048576 parts, texts of at most 1048576 bytes; the table of signs reads as its text lays it.
-/
import Derived.Test.YtaagbcdlmmobkabDoorKids
namespace Go.Proofs.YtaagbcdlmmobkabDoor.W
open Go.ChangeShapes Go.WideShapes Go.ChangeAt Go.RowKit
set_option linter.unusedVariables false

def E.dep : E → Nat
  | .leaf _ => 1
  | .one _ a => a.dep + 1
  | .two _ a b => max a.dep b.dep + 1
def mxd : List E → Nat
  | [] => 0
  | k :: ks => max k.dep (mxd ks)
theorem mxd_snoc (ks : List E) (k : E) : mxd (ks ++ [k]) = max (mxd ks) k.dep := by
  induction ks with
  | nil => simp [mxd]
  | cons x l ih => simp only [List.cons_append, mxd, ih]; omega
theorem E.dep_kids (e : E) : e.dep = mxd e.kids + 1 := by cases e <;> simp [E.dep, E.kids, mxd]
theorem E.dep_le : ∀ e : E, e.dep ≤ e.flat.length
  | .leaf _ => by simp [E.dep, E.flat]
  | .one _ a => by have := a.dep_le; simp [E.dep, E.flat]; omega
  | .two _ a b => by have := a.dep_le; have := b.dep_le; simp [E.dep, E.flat]; omega
theorem mxd_le : ∀ ks : List E, mxd ks ≤ (fl ks).length
  | [] => by simp [mxd]
  | k :: ks => by have := k.dep_le; have := mxd_le ks; rw [fl_cons]; simp [mxd]; omega

def DpGoal (ad : Option Addr) (c : Nat) (l : List Xx) (e : E) : Prop := e.ok → ∀ (p : Nat) (r : List Xx) (w : World), l.drop p = e.flat ++ r → Row w ad l →
    Calls Tryd.prog 19 #[.slice ad l.length c, .int .i64 p] w fun x w' => x = .returned (.tuple #[.int .i64 (e.dep : Int), .int .i64 ((p + e.flat.length : Nat) : Int)]) ∧ Below w.heap.size w w'

set_option maxRecDepth 20000 in
set_option maxHeartbeats 2000000 in
theorem depthAt_any (ad : Option Addr) (c : Nat) (l : List Xx) (hl : l.length ≤ 1048576) : ∀ e, DpGoal ad c l e := by
  apply E.rec_kids
  intro e ih hok p r w hd hR
  have hkl := E.kids_len hok
  have hko := E.kids_ok hok
  rw [E.flat_kids] at hd
  have hlen := drop_len hd (by simp)
  rw [List.cons_append] at hd
  obtain ⟨hp, hx⟩ := drop_lt hd
  rw [E.dep_kids, E.flat_kids]
  have hk2 := E.kids_le e
  obtain ⟨ks, hks⟩ : ∃ ks, ks = e.kids := ⟨_, rfl⟩
  obtain ⟨x, hxe⟩ : ∃ x, x = e.head := ⟨_, rfl⟩
  rw [← hks, ← hxe] at hd hkl ⊢
  rw [← hks] at ih hko hk2
  rw [← hxe] at hx
  rw [← hks, ← hxe] at hlen
  simp only [List.length_cons] at hlen ⊢
  have IH := hide ih
  have HKO := hide hko
  have HD := hide hd
  have HR := hide hR
  clear ih hko hd hR hks hxe
  obtain ⟨b, o, rfl, hb, p0, p1, p2⟩ := HR.out.tok (Below.refl _ _) hp
  rw [hx] at p0 p1 p2
  clear hx
  have hp' : (p : Int) < (l.length : Int) := by omega
  have hmx := mxd_le ks
  have hkl' : (behind x : Int) = (ks.length : Int) := by omega
  go_enter Tryd.func19, Tryd.ntmps19
  go_wp2_with fail
  refine (partsBehind_any x _).mono ?_
  rintro e w1 ⟨rfl, hb1⟩
  rw [hkl']
  clear hkl hkl'
  go_wp2_with fail
  have hB1 : Below w.heap.size w w1 := hb1
  clear hb1 p0 p1 p2
  go_loopw [6, 7, 16] (fun d7 n7 i w' => ∃ j : Nat, j ≤ ks.length ∧ i = .int .i64 j ∧ d7 = .int .i64 (mxd (ks.take j) : Int) ∧ n7 = .int .i64 ((p + 1 + (fl (ks.take j)).length : Nat) : Int) ∧ Below w.heap.size w w') (fun _ _ i _ => ks.length - (intOf i).toNat)
  case atStart => exact ⟨0, by omega, rfl, rfl, by simp [fl], hB1⟩
  case round =>
    obtain ⟨j, hj, rfl, rfl, rfl, hB⟩ := hrel
    clear hB1
    by_cases hlt : j < ks.length
    · have hlt' : (j : Int) < (ks.length : Int) := by omega
      have hkd := kid_at HD.out hlt
      have hkl := drop_len hkd (E.flat_pos _)
      have hc := IH.out _ (List.getElem_mem hlt) (HKO.out _ (List.getElem_mem hlt)) _ _ wr hkd (HR.out.below hB)
      have hft := fl_take_succ hlt
      have hmt : mxd (ks.take (j + 1)) = max (mxd (ks.take j)) (ks[j]).dep := by rw [List.take_succ_eq_append_getElem hlt, mxd_snoc]
      have hdl := (ks[j]).dep_le
      have hml := mxd_le (ks.take j)
      obtain ⟨K, hK⟩ : ∃ K, K = ks[j] := ⟨_, rfl⟩
      rw [← hK] at hkd hkl hc hft hmt hdl
      obtain ⟨Q, hQ⟩ : ∃ Q, Q = p + 1 + (fl (ks.take j)).length := ⟨_, rfl⟩
      rw [← hQ] at hc hkl ⊢
      obtain ⟨M, hM⟩ : ∃ M, M = mxd (ks.take j) := ⟨_, rfl⟩
      rw [← hM] at hmt hml ⊢
      have hq2 : p + 1 + (fl (ks.take (j + 1))).length = Q + K.flat.length := by rw [hft, List.length_append]; omega
      have HC := hide hc
      have HQ2 := hide hq2
      have HMT := hide hmt
      clear hK hQ hM hkd hft hc hq2 hmt
      obtain ⟨D, hD⟩ : ∃ D, D = K.dep := ⟨_, rfl⟩
      rw [← hD] at HC HMT hdl
      obtain ⟨F, hF⟩ : ∃ F, F = K.flat.length := ⟨_, rfl⟩
      rw [← hF] at HC HQ2 hdl hkl
      clear hD hF
      go_wp2_with fail
      refine Calls.mono HC.out ?_
      rintro e w2 ⟨rfl, hb2⟩
      have hB2 : Below w.heap.size w w2 := hB.trans (hb2.mono hB.size)
      clear hb2 HC
      go_wp2_with fail
      refine ⟨⟨j + 1, by omega, by go_num, ?_, ?_, hB2⟩, by simp [intOf]; omega⟩
      · rw [HMT.out]; congr 1; split <;> omega
      · rw [HQ2.out]; congr 1
    · obtain rfl : j = ks.length := by omega
      rw [List.take_length]
      go_wp2_with fail
      go_ret2
      exact ⟨by simp; omega, hB⟩

def L2DGoal (e : E) : Prop := ∀ (lo : Nat) (s : Value) (w : World), e.flat.length ≤ 1048576 → TrK w lo e s →
    Calls Tryd.prog 16 #[.agg #[.int .i64 e.head.k, .int .i64 e.head.n, .string e.head.t, s]] w fun x w' => x = .returned (.int .i64 (e.dep : Int)) ∧ Below w.heap.size w w'

theorem fl_get_le {ks : List E} {j : Nat} (hj : j < ks.length) : (ks[j]).flat.length ≤ (fl ks).length := by
  have h := fl_take_succ hj
  have h2 : fl ks = fl (ks.take (j + 1)) ++ fl (ks.drop (j + 1)) := by unfold fl; rw [← List.flatMap_append, List.take_append_drop]
  rw [h2, h]; simp; omega

set_option maxRecDepth 20000 in
set_option maxHeartbeats 2000000 in
theorem l2Depth_any : ∀ e, L2DGoal e := by
  apply E.rec_kids
  intro e ih lo s w hfl hT
  obtain ⟨ad, cap, rfl, hk⟩ := hT.kid
  rw [E.dep_kids]
  rw [E.flat_kids, List.length_cons] at hfl
  have hmx := mxd_le e.kids
  have hk2 := E.kids_le e
  obtain ⟨ks, hks⟩ : ∃ ks, ks = e.kids := ⟨_, rfl⟩
  rw [← hks] at hmx hk2 hfl ih ⊢
  have HK : ∀ i (hi : i < ks.length), ∃ g si, ad = some ⟨g, 0, none⟩ ∧ g < w.heap.size ∧ TrK w lo (ks[i]) si ∧
      w.cell? ⟨g, i * 4, none⟩ = some (.int .i64 (ks[i]).head.k) ∧ w.cell? ⟨g, i * 4 + 1, none⟩ = some (.int .i64 (ks[i]).head.n) ∧ w.cell? ⟨g, i * 4 + 2, none⟩ = some (.string (ks[i]).head.t) ∧ w.cell? ⟨g, i * 4 + 3, none⟩ = some si := by
    rw [hks]; exact hk
  have HKh := hide HK
  have IH := hide ih
  obtain ⟨x, hx⟩ : ∃ x, x = e.head := ⟨_, rfl⟩
  rw [← hx]
  clear HK hk hT ih hks hx
  go_enter Tryd.func16, Tryd.ntmps16
  go_wp2_with fail
  go_loopw [3, 10] (fun d7 i w' => ∃ j : Nat, j ≤ ks.length ∧ i = .int .i64 j ∧ d7 = .int .i64 (mxd (ks.take j) : Int) ∧ Below w.heap.size w w') (fun _ i _ => ks.length - (intOf i).toNat)
  case atStart => exact ⟨0, by omega, rfl, rfl, (Below.refl _ _).alloc (Nat.le_refl _) _⟩
  case round =>
    obtain ⟨j, hj, rfl, rfl, hB⟩ := hrel
    by_cases hlt : j < ks.length
    · have hlt' : (j : Int) < (ks.length : Int) := by omega
      obtain ⟨g, si, rfl, hg, hTk, p0, p1, p2, p3⟩ := HKh.out j hlt
      have q0 := (hB.cell (p := ⟨g, j * 4, none⟩) hg).trans p0
      have q1 := (hB.cell (p := ⟨g, j * 4 + 1, none⟩) hg).trans p1
      have q2 := (hB.cell (p := ⟨g, j * 4 + 2, none⟩) hg).trans p2
      have q3 := (hB.cell (p := ⟨g, j * 4 + 3, none⟩) hg).trans p3
      have hgl := fl_get_le hlt
      have hc := fun (w' : World) (hw' : Below w.heap.size w w') => IH.out _ (List.getElem_mem hlt) lo si w' (by omega) (hTk.keep hw'.size (fun k _ hk => hw'.block k hk))
      have hmt : mxd (ks.take (j + 1)) = max (mxd (ks.take j)) (ks[j]).dep := by rw [List.take_succ_eq_append_getElem hlt, mxd_snoc]
      have hdl := (ks[j]).dep_le
      have hml := mxd_le (ks.take j)
      have htl : (fl (ks.take j)).length ≤ (fl ks).length := by
        have h2 : fl ks = fl (ks.take j) ++ fl (ks.drop j) := by unfold fl; rw [← List.flatMap_append, List.take_append_drop]
        rw [h2]; simp
      obtain ⟨sad, sn, sc, rfl⟩ := hTk.form
      clear p0 p1 p2 p3 hTk
      obtain ⟨K, hK⟩ : ∃ K, K = ks[j] := ⟨_, rfl⟩
      rw [← hK] at hc hmt hdl q0 q1 q2 hgl
      obtain ⟨M, hM⟩ : ∃ M, M = mxd (ks.take j) := ⟨_, rfl⟩
      rw [← hM] at hmt hml ⊢
      have HC := hide hc
      have HMT := hide hmt
      clear hK hM hc hmt
      obtain ⟨D, hD⟩ : ∃ D, D = K.dep := ⟨_, rfl⟩
      rw [← hD] at HMT hdl
      have HC2 : ∀ w', Below w.heap.size w w' → Calls Tryd.prog 16 #[.agg #[.int .i64 K.head.k, .int .i64 K.head.n, .string K.head.t, .slice sad sn sc]] w' fun x w'' => x = .returned (.int .i64 (D : Int)) ∧ Below w'.heap.size w' w'' := by rw [hD]; exact HC.out
      have HC3 := hide HC2
      obtain ⟨y, hy⟩ : ∃ y, y = K.head := ⟨_, rfl⟩
      rw [← hy] at HC3 q0 q1 q2
      clear hD HC HC2 hy
      go_wp2_with fail
      refine Calls.mono (HC3.out _ (hB.alloc hB.size _)) ?_
      rintro e w2 ⟨rfl, hb2⟩
      have hB2 : Below w.heap.size w w2 := (hB.alloc hB.size _).trans (hb2.mono (by have := hB.size; simp; omega))
      clear hb2 HC3 q0 q1 q2 q3
      by_cases hMD : M < D
      · have hMD' : (M : Int) < (D : Int) := by omega
        go_wp2_with fail
        exact ⟨⟨j + 1, by omega, by go_num, by rw [HMT.out]; congr 1; omega, hB2⟩, by simp [intOf]; omega⟩
      · have hMD' : ¬ (M : Int) < (D : Int) := by omega
        go_wp2_with fail
        exact ⟨⟨j + 1, by omega, by go_num, by rw [HMT.out]; congr 1; omega, hB2⟩, by simp [intOf]; omega⟩
    · obtain rfl : j = ks.length := by omega
      rw [List.take_length]
      go_wp2_with fail
      go_ret
      exact ⟨ret_int (by simp), hB⟩

/-- How deep a good expression is. -/
def depE (l : List Xx) : Int := match treeE l with | some e => (e.dep : Int) | none => 0

set_option maxHeartbeats 1000000 in
theorem specDepth_any (ad : Option Addr) (c : Nat) (l : List Xx) (w : World) (hl : l.length ≤ 1048576) (hs : ∀ x ∈ l, x.t.size ≤ 1048576) (h : Row w ad l) :
    Calls Tryd.prog 6 #[.slice ad l.length c] w fun e w' => e = .returned (.tuple #[.int .i64 (depE l), .bool (goodE l)]) ∧ Below w.heap.size w w' := by
  have HC := hide (l2Tree_any ad c l w hl hs h)
  clear h hs
  cases hT : treeE l with
  | none =>
    have h1 : depE l = 0 := by unfold depE; rw [hT]
    have h2 : goodE l = false := by rw [goodE_tree, hT]; rfl
    rw [h1, h2]
    rw [hT] at HC
    clear h1 h2 hT
    go_enter Tryd.func6, Tryd.ntmps6
    go_wp2_with fail
    refine Calls.mono HC.out ?_
    rintro e w1 ⟨hb1, k, n, t, sad, sn, sc, rfl⟩
    clear HC
    go_wp2_with fail
    go_ret2
    exact ⟨rfl, hb1.alloc hb1.size _⟩
  | some t =>
    have h1 : depE l = (t.dep : Int) := by unfold depE; rw [hT]
    have h2 : goodE l = true := by rw [goodE_tree, hT]; rfl
    have hfl : t.flat.length ≤ 1048576 := by rw [← (treeE_flat hT).1]; exact hl
    rw [h1, h2]
    rw [hT] at HC
    clear h1 h2 hT
    go_enter Tryd.func6, Tryd.ntmps6
    go_wp2_with fail
    refine Calls.mono HC.out ?_
    rintro e w1 ⟨hb1, s, rfl, hTr⟩
    clear HC
    obtain ⟨sad, sn, sc, rfl⟩ := hTr.form
    have HD := hide (fun (w' : World) (hw' : Below w1.heap.size w1 w') => l2Depth_any t _ _ w' hfl (hTr.below hw'))
    clear hTr
    obtain ⟨x, hx⟩ : ∃ x, x = t.head := ⟨_, rfl⟩
    rw [← hx] at HD ⊢
    clear hx
    go_wp2_with fail
    refine Calls.mono (HD.out _ ((Below.refl _ _).alloc (Nat.le_refl _) _)) ?_
    rintro e w2 ⟨rfl, hb2⟩
    have hB2 : Below w.heap.size w w2 := (hb1.alloc hb1.size _).trans (hb2.mono (by have := hb1.size; simp; omega))
    clear hb2 HD
    go_wp2_with fail
    go_ret2
    exact ⟨rfl, hB2⟩

set_option maxHeartbeats 1000000 in
theorem implDepth_any (ad : Option Addr) (c : Nat) (l : List Xx) (w : World) (hl : l.length ≤ 1048576) (hs : ∀ x ∈ l, x.t.size ≤ 1048576) (h : Row w ad l) (ht : SgTab w) :
    Calls Tryd.prog 8 #[.slice ad l.length c] w fun e w' => e = .returned (.tuple #[.int .i64 (depE l), .bool (goodE l)]) ∧ Below w.heap.size w w' := by
  have HC := hide (implGoodE_any ad c l w hl hs h ht)
  have HR := hide h
  clear h hs ht
  cases hT : treeE l with
  | none =>
    have h1 : depE l = 0 := by unfold depE; rw [hT]
    have h2 : goodE l = false := by rw [goodE_tree, hT]; rfl
    rw [h1, h2]
    rw [h2] at HC
    clear h1 h2 hT
    go_enter Tryd.func8, Tryd.ntmps8
    go_wp2_with fail
    refine Calls.mono HC.out ?_
    rintro e w1 ⟨rfl, hb1⟩
    clear HC
    go_wp2_with fail
    go_ret2
    exact ⟨rfl, hb1⟩
  | some t =>
    have h1 : depE l = (t.dep : Int) := by unfold depE; rw [hT]
    have h2 : goodE l = true := by rw [goodE_tree, hT]; rfl
    obtain ⟨hf1, hok, -, -⟩ := treeE_flat hT
    rw [h1, h2]
    rw [h2] at HC
    have HD := hide (fun (w' : World) (hw' : Row w' ad l) => depthAt_any ad c l hl t hok 0 [] w' (by rw [List.drop_zero, List.append_nil]; exact hf1) hw')
    clear h1 h2 hT hf1
    go_enter Tryd.func8, Tryd.ntmps8
    go_wp2_with fail
    refine Calls.mono HC.out ?_
    rintro e w1 ⟨rfl, hb1⟩
    clear HC
    go_wp2_with fail
    refine Calls.mono (HD.out _ (HR.out.below hb1)) ?_
    rintro e w2 ⟨rfl, hb2⟩
    have hB2 : Below w.heap.size w w2 := hb1.trans (hb2.mono hb1.size)
    clear hb2 HD
    go_wp2_with fail
    go_ret2
    exact ⟨rfl, hB2⟩
end Go.Proofs.YtaagbcdlmmobkabDoor.W

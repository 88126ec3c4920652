/-
  All that a computation may tell: contracts of both ResultsOf. Conditions: at most 1048576 cells.
-/
import Derived.Test.YtlicfmjkoopmnaaCoF
namespace Go.Proofs.Ytlicfmjkoopmnaa.C
open Go.Proofs.Ytlicfmjkoopmnaa.W
open Go.ChangeShapes Go.WideShapes Go.ChangeAt Go.RowKit
set_option linter.unusedVariables false

/-- The numbers told by a row of cells. -/
def rsC : List Cc → List Int
  | [] => []
  | x :: l => if x.k = 1 then x.n :: rsC l else rsC l
theorem rsC_app : ∀ a b : List Cc, rsC (a ++ b) = rsC a ++ rsC b
  | [], b => rfl
  | x :: a, b => by simp only [List.cons_append, rsC, rsC_app a b]; split <;> simp
theorem rsC_len : ∀ a : List Cc, (rsC a).length ≤ a.length
  | [] => by simp [rsC]
  | x :: a => by have := rsC_len a; simp only [rsC]; split <;> simp <;> omega
theorem Tr.rs : ∀ t : Tr, rsC t.flat = t.res
  | .ret n => by simp [Tr.flat, Tr.res, rsC]
  | .ask n a b => by simp [Tr.flat, Tr.res, rsC, rsC_app, Tr.rs a, Tr.rs b]
/-- What ResultsOf tells. -/
def frL (l : List Cc) : List Int := if goodT l = true then rsC l else []
theorem frL_len (l : List Cc) (h : l.length ≤ 1048576) : (frL l).length ≤ 1048576 := by
  unfold frL
  split
  · have := rsC_len l; omega
  · simp
theorem rsC_1 {x : Cc} (h : x.k = 1) : rsC [x] = [x.n] := by simp [rsC, h]
theorem rsC_0 {x : Cc} (h : ¬ x.k = 1) : rsC [x] = [] := by simp [rsC, h]

set_option maxRecDepth 20000 in
set_option maxHeartbeats 2000000 in
theorem specFreeIn_any (ad : Option Addr) (c : Nat) (l : List Cc) (w : World) (hl : l.length ≤ 1048576) (h : CRow w ad l) :
    Calls Try.prog 32 #[.slice ad l.length c] w fun e w' => ∃ s', e = .returned (.tuple #[s', .bool (goodT l)]) ∧ IS w' s' (frL l) ∧ Below w.heap.size w w' := by
  unfold frL
  by_cases hg : goodT l = true
  · obtain ⟨t, ht, hlt, h6, htr⟩ := good_tr hg
    have HC := hide (l9Tree_tr ad c l w hl h t htr)
    rw [hg, if_pos rfl]
    have HR : Hid (rsC l = t.res) := hide (by rw [hlt]; exact Tr.rs t)
    rw [HR.out]
    have hfl : 0 + t.flat.length ≤ 1048576 := by rw [← hlt]; omega
    clear hlt htr h hg HR
    go_enter Try.func32, Try.ntmps32
    go_wp2_with fail
    refine Calls.mono HC.out ?_
    rintro e w1 ⟨hb1, v, rfl, hT⟩
    obtain ⟨b, n, sad, sl, sc, rfl⟩ := hT.form
    have HD := hide (l9Results_any t (.agg #[.bool b, .int .i64 n, .slice sad sl sc]) (.slice none 0 0) (w1.heap.size + 1) 0 [] (fun g => w.heap.size ≤ g) (w1.alloc (.cells #[.bool b, .int .i64 n, .slice sad sl sc] 62)) (fun g _ _ e => by cases e) hfl (by simp) (hT.below ((Below.refl _ _).alloc (Nat.le_refl _) _)) (World.ownsRow_nil _ _ _ _))
    have HB1 : Hid (Below w.heap.size w (w1.alloc (.cells #[.bool b, .int .i64 n, .slice sad sl sc] 62))) := hide (hb1.alloc hb1.size _)
    clear HC hb1 hT
    go_wp2_with fail
    refine Calls.mono HD.out ?_
    rintro e w2 ⟨v', rfl, ho, hgr, -⟩
    have hB2 : Below w.heap.size w w2 := HB1.out.grown hgr HB1.out.size (fun k hk => by cases hk)
    rw [Nat.zero_add, List.nil_append] at ho
    have HO := hide ho
    obtain ⟨ad2, c2, rfl⟩ := iOwn_form ho
    clear ho hgr HD
    go_wp2_with fail
    refine bodyPost_ret (v := .tuple #[.slice ad2 t.res.length c2, .bool true]) (by simp [results, Try.results32, go_sem]) rfl ⟨_, rfl, IS.ofOwn HO.out, hB2⟩
  · rw [Bool.not_eq_true] at hg
    have HC := hide (l9Tree_bad ad c l w hl h hg)
    rw [hg, if_neg (by simp)]
    clear hg h
    go_enter Try.func32, Try.ntmps32
    go_wp2_with fail
    refine Calls.mono HC.out ?_
    rintro e w1 ⟨hb1, k, n, sad, sn, sc, rfl⟩
    clear HC
    go_wp2_with fail
    exact bodyPost_ret (v := .tuple #[.slice none 0 0, .bool false]) (by simp [results, Try.results32, go_sem]) rfl ⟨_, rfl, .inl ⟨rfl, rfl⟩, hb1.alloc hb1.size _⟩

theorem take_succ_app {α : Type} {l : List α} {j : Nat} (h : j < l.length) : l.take (j + 1) = l.take j ++ [l[j]] := List.take_succ_eq_append_getElem h

set_option maxRecDepth 20000 in
set_option maxHeartbeats 2000000 in
theorem implFreeIn_any (ad : Option Addr) (c : Nat) (l : List Cc) (w : World) (hl : l.length ≤ 1048576) (hc : l.length ≤ c) (h : CRow w ad l) :
    Calls Try.prog 33 #[.slice ad l.length c] w fun e w' => ∃ s', e = .returned (.tuple #[s', .bool (goodT l)]) ∧ w'.ownsRow w.heap.size 3 1 s' (frL l).length ((frL l).map (Value.int .i64)) ∧ Below w.heap.size w w' := by
  unfold frL
  have HC := hide (implGoodT_any ad c l w hl h)
  have HR := hide h
  clear h hc
  by_cases hg : goodT l = true
  · rw [hg] at HC
    rw [hg, if_pos rfl]
    obtain ⟨i0, hi0, hz0, hz1, hz2⟩ := infoPartsT infoInt
    have Hi := hide hi0
    clear hi0 hg
    go_enter Try.func33, Try.ntmps33
    go_wp2_with fail
    refine Calls.mono HC.out ?_
    rintro e w1 ⟨rfl, hb1⟩
    have HR1 := hide (HR.out.below hb1)
    clear HC
    go_wp2_with fail
    go_loopw [4, 12] (fun v i w' => ∃ j : Nat, j ≤ l.length ∧ i = .int .i64 j ∧ w'.ownsRow w.heap.size 3 1 v (rsC (l.take j)).length ((rsC (l.take j)).map (Value.int .i64)) ∧ Below w1.heap.size w1 w' ∧ (∀ k, v.ownBlock = some k → w1.heap.size ≤ k)) (fun _ i _ => l.length - (intOf i).toNat)
    case atStart => exact ⟨0, by omega, rfl, World.ownsRow_nil _ _ _ _, Below.refl _ _, fun k hk => by cases hk⟩
    case round =>
      obtain ⟨j, hj, rfl, ho, hB, hw1⟩ := hrel
      have HO := hide ho
      obtain ⟨oad, oc, rfl⟩ := iOwn_form ho
      have hrl := rsC_len (l.take j)
      rw [List.length_take, Nat.min_eq_left hj] at hrl
      clear ho
      have hbs := hB.size
      have hb1s := hb1.size
      by_cases hlt : j < l.length
      · have hlt' : (j : Int) < (l.length : Int) := by omega
        obtain ⟨b, o, rfl, hb, p0, p1⟩ := HR1.out.tok hB hlt
        have HE : Hid (rsC (l.take (j + 1)) = rsC (l.take j) ++ rsC [l[j]]) := hide (by rw [take_succ_app hlt, rsC_app])
        obtain ⟨x, hx⟩ : ∃ x, x = l[j] := ⟨_, rfl⟩
        rw [← hx] at p0 p1 HE
        clear hx
        obtain ⟨OL, hOL⟩ : ∃ OL, OL = rsC (l.take j) := ⟨_, rfl⟩
        rw [← hOL] at HO HE hrl hw1 ⊢
        clear hOL
        by_cases hk : x.k = 1
        · rw [rsC_1 hk] at HE
          obtain ⟨xk, xn⟩ := x
          simp only at hk p0 p1 HE
          subst hk
          have M1 : Hid (OL.length + 1 ≤ maxLen) := hide (by unfold maxLen; omega)
          have HN : Hid (∀ j u, [Value.int .i64 xn][j]? = some u → ((wr.alloc (.cells #[.int .i64 1, .int .i64 xn] 66)).alloc (.cells #[.int .i64 xn] 3)).cell? ((⟨wr.heap.size + 1, 0, none⟩ : Addr).add j) = some u) := hide (by
            intro j u hu
            have hh : ((wr.alloc (.cells #[.int .i64 1, .int .i64 xn] 66)).alloc (.cells #[.int .i64 xn] 3)).heap[wr.heap.size + 1]? = some (.cells #[.int .i64 xn] 3) := by
              have := heap_alloc_new (wr.alloc (.cells #[.int .i64 1, .int .i64 xn] 66)) (.cells #[.int .i64 xn] 3); simpa using this
            rw [iAdd, Nat.zero_add, cell_of_blk hh, ← hu]; simp)
          obtain ⟨ON, hON⟩ : ∃ ON, ON = OL.length := ⟨_, rfl⟩
          rw [← hON] at HO M1 hrl hw1 ⊢
          have HON := hide hON
          clear hON
          go_wp2_with (at_builtin; refine wpList_append_sep rfl _ _ 55 rfl w.heap.size 3 i0 (.int .i64 0) 1 8 Try.underlying55 Hi.out hz0 hz1 hz2 rfl (by decide) _ ON (OL.map (Value.int .i64)) rfl ((HO.out.alloc _).alloc _) ⟨wr.heap.size + 1, 0, none⟩ 1 1 [.int .i64 xn] rfl rfl HN.out (iOne [xn]) M1.out (by omega) (by simp; omega) ?_)
          intro v1 w2 hown1 hgrow1 hap1
          obtain ⟨ad1, c1, rfl⟩ := iOwn_form hown1
          have HO1 := hide hown1
          have HB1 : Hid (Below w1.heap.size w1 w2) := hide (((hB.alloc hB.size _).alloc (by simp; omega) _).grown hgrow1 (by simp; omega) hw1)
          have HW1 : Hid (∀ k, (Value.slice ad1 (ON + 1) c1).ownBlock = some k → w1.heap.size ≤ k) := hide (fun k hk => by
            rcases hap1 k hk with h | h
            · exact hw1 k h
            · simp at h; omega)
          clear hown1 hgrow1 hap1 p0 p1
          go_wp2_with fail
          refine ⟨⟨j + 1, by omega, by go_num, ?_, HB1.out, HW1.out⟩, by simp [intOf]; omega⟩
          have := HO1.out
          rw [HE.out, List.map_append, List.length_append, ← HON.out]
          exact this
        · rw [rsC_0 hk, List.append_nil] at HE
          go_wp2_with fail
          refine ⟨⟨j + 1, by omega, by go_num, by rw [HE.out]; exact HO.out.alloc _, hB.alloc hB.size _, hw1⟩, by simp [intOf]; omega⟩
      · obtain rfl : j = l.length := by omega
        rw [List.take_length] at HO ⊢
        obtain ⟨ON, hON⟩ : ∃ ON, ON = (rsC l).length := ⟨_, rfl⟩
        rw [← hON] at HO ⊢
        have HON := hide hON
        clear hON
        have hB2 : Below w.heap.size w wr := hb1.trans (hB.mono hb1s)
        go_wp2_with fail
        exact bodyPost_ret (v := .tuple #[.slice oad ON oc, .bool true]) (by simp [results, Try.results33, go_sem]) rfl ⟨_, rfl, by rw [← HON.out]; exact HO.out, hB2⟩
  · rw [Bool.not_eq_true] at hg
    rw [hg] at HC
    rw [hg, if_neg (by simp)]
    clear hg
    go_enter Try.func33, Try.ntmps33
    go_wp2_with fail
    refine Calls.mono HC.out ?_
    rintro e w1 ⟨rfl, hb1⟩
    clear HC
    go_wp2_with fail
    exact bodyPost_ret (v := .tuple #[.slice none 0 0, .bool false]) (by simp [results, Try.results33, go_sem]) rfl ⟨_, rfl, World.ownsRow_nil _ _ _ _, hb1⟩
end Go.Proofs.Ytlicfmjkoopmnaa.C

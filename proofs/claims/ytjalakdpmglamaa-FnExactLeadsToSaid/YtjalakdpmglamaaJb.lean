/-
  Some texts of this proof in one: TeG, TeM.
-/
import Derived.Test.YtjalakdpmglamaaJa
import Derived.Laws.AppendOwn
import Derived.ScopeJumps
import Derived.Outline
/-
  Contracts of the program's termsBehind, isFar, goodCell, sizeAhead, GoodTerm, and of the specification's l3Arity and l3Cell. Conditions: at most 1048576 cells.
-/
namespace Go.Proofs.Ytjalakdpmglamaa.W
open Go.ChangeShapes Go.WideShapes Go.ChangeAt Go.RowKit
set_option linter.unusedVariables false

set_option maxHeartbeats 400000 in
theorem termsBehind_any (k : Int) (w : World) :
    Calls Try.prog 23 #[.int .i64 k] w fun e w' => e = .returned (.int .i64 (ar k : Int)) ∧ w' = w := by
  go_enter Try.func23, Try.ntmps23
  go_wp2
  all_goals
    go_ret
    refine ⟨ret_int ?_, rfl⟩
    simp_all [ar]

set_option maxHeartbeats 400000 in
theorem isFar_any (n : Int) (w : World) :
    Calls Try.prog 41 #[.int .i64 n] w fun e w' => e = .returned (.bool (inB n 0 99)) ∧ w' = w := by
  go_enter Try.func41, Try.ntmps41
  go_wp2
  all_goals
    go_ret
    refine ⟨ret_bool ?_, rfl⟩
    simp [inB, *]
  all_goals omega

set_option maxHeartbeats 1000000 in
theorem goodCell_any (x : Cc) (w : World) :
    Calls Try.prog 34 #[.agg #[.int .i64 x.k, .int .i64 x.n]] w fun e w' => e = .returned (.bool (goodC x)) ∧ Below w.heap.size w w' := by
  obtain ⟨k, n⟩ := x
  simp only
  by_cases k1 : k = 1
  · subst k1
    go_enter Try.func34, Try.ntmps34
    go_wp2_with fail
    refine (isFar_any _ _).mono ?_
    rintro e w' ⟨rfl, rfl⟩
    go_wp2_with fail
    go_ret
    exact ⟨rfl, (Below.refl _ _).alloc (Nat.le_refl _) _⟩
  · by_cases k2 : k = 2
    · subst k2
      go_enter Try.func34, Try.ntmps34
      go_wp2
      all_goals
        go_ret
        refine ⟨ret_bool ?_, (Below.refl _ _).alloc (Nat.le_refl _) _⟩
        simp [goodC, inB, *]
      all_goals omega
    · go_enter Try.func34, Try.ntmps34
      go_wp2
      all_goals
        go_ret
        refine ⟨ret_bool ?_, (Below.refl _ _).alloc (Nat.le_refl _) _⟩
        rw [Bool.eq_iff_iff]
        simp_all [goodC, inB]
      all_goals (try omega)

set_option maxHeartbeats 400000 in
theorem l3Arity_any (k : Int) (w : World) :
    Calls Try.prog 31 #[.int .i64 k] w fun e w' => e = .returned (.int .i64 (if inB k 1 7 = true then (ar k : Int) else -1)) ∧ w' = w := by
  go_enter Try.func31, Try.ntmps31
  go_wp2
  all_goals
    go_ret
    refine ⟨ret_int ?_, rfl⟩
    simp_all [ar, inB]
  all_goals omega

set_option maxHeartbeats 1000000 in
theorem l3Cell_any (x : Cc) (w : World) :
    Calls Try.prog 30 #[.agg #[.int .i64 x.k, .int .i64 x.n]] w fun e w' => e = .returned (.bool (goodC x)) ∧ Below w.heap.size w w' := by
  obtain ⟨k, n⟩ := x
  simp only
  by_cases k1 : k = 1
  · subst k1
    go_enter Try.func30, Try.ntmps30
    go_wp2_with fail
    refine (l1In_any _ _ _ _).mono ?_
    rintro e w' ⟨rfl, rfl⟩
    go_wp2_with fail
    go_ret
    exact ⟨rfl, (Below.refl _ _).alloc (Nat.le_refl _) _⟩
  · by_cases k2 : k = 2
    · subst k2
      go_enter Try.func30, Try.ntmps30
      go_wp2_with fail
      refine (l1In_any _ _ _ _).mono ?_
      rintro e w' ⟨rfl, rfl⟩
      go_wp2_with fail
      go_ret
      exact ⟨rfl, (Below.refl _ _).alloc (Nat.le_refl _) _⟩
    · have hg : goodC ⟨k, n⟩ = (decide (n = 0) && inB k 3 7) := by simp [goodC, k1, k2]
      rw [hg]
      clear hg
      by_cases hn : n = 0
      · subst hn
        have ha : decide ((0 : Int) < if inB k 1 7 = true then (ar k : Int) else -1) = inB k 3 7 := by
          rw [Bool.eq_iff_iff]
          simp only [inB, ar, decide_eq_true_eq, Bool.and_eq_true]
          split <;> (try split) <;> (try split) <;> (try split) <;> simp <;> omega
        obtain ⟨R, hR⟩ : ∃ R, R = if inB k 1 7 = true then (ar k : Int) else -1 := ⟨_, rfl⟩
        have hc := l3Arity_any k
        rw [← hR] at hc ha
        clear hR
        rw [← ha]
        have HC := hide hc
        clear hc ha
        go_enter Try.func30, Try.ntmps30
        go_wp2_with (go_at_call 31; refine (HC.out _).mono ?_; rintro e w' ⟨rfl, rfl⟩)
        all_goals
          go_ret
          refine ⟨ret_bool (by simp_all), (Below.refl _ _).alloc (Nat.le_refl _) _⟩
      · go_enter Try.func30, Try.ntmps30
        go_wp2
        all_goals
          go_ret
          refine ⟨ret_bool (by simp [hn]), (Below.refl _ _).alloc (Nat.le_refl _) _⟩

/-- What sizeAhead tells. -/
def szV : Option Nat → Value
  | none => .tuple #[.int .i64 0, .bool false]
  | some n => .tuple #[.int .i64 (n : Int), .bool true]

set_option maxHeartbeats 2000000 in
theorem sizeAhead_any (ad : Option Addr) (c : Nat) (l : List Cc) (w : World) (hl : l.length ≤ 1048576) (h : CRow w ad l) :
    Calls Try.prog 22 #[.slice ad l.length c] w fun e w' => e = .returned (szV (sz l 1 0)) ∧ Below w.heap.size w w' := by
  have HR := hide h
  clear h
  go_enter Try.func22, Try.ntmps22
  go_wp2_with fail
  go_loopw [4, 9] (fun m i w' => ∃ (j M : Nat), j ≤ l.length ∧ 0 < M ∧ M ≤ 2 * j + 1 ∧ m = .int .i64 M ∧ i = .int .i64 j ∧ sz l 1 0 = sz (l.drop j) M j ∧ Below w.heap.size w w') (fun _ i _ => l.length - (intOf i).toNat)
  case atStart => exact ⟨0, 1, by omega, by omega, by omega, rfl, rfl, rfl, Below.refl _ _⟩
  case round =>
    obtain ⟨j, M, hj, hM0, hM, rfl, rfl, hrun, hB⟩ := hrel
    have HRun := hide hrun
    clear hrun
    by_cases hlt : j < l.length
    · have hlt' : (j : Int) < (l.length : Int) := by omega
      obtain ⟨b, o, rfl, hb, p0, p1⟩ := HR.out.tok hB hlt
      have hd : l.drop j = l[j] :: l.drop (j + 1) := List.drop_eq_getElem_cons hlt
      obtain ⟨x, hx⟩ : ∃ x, x = l[j] := ⟨_, rfl⟩
      rw [← hx] at p0 p1 hd
      rw [hd] at HRun
      clear hx hd
      go_wp2_with fail
      refine (goodCell_any x _).mono ?_
      rintro e w1 ⟨rfl, hb1⟩
      have c0 : w1.cell? ⟨wr.heap.size, 0, none⟩ = some (.int .i64 x.k) := by rw [hb1.cell (by simp)]; simp
      have c1 : w1.cell? ⟨wr.heap.size, 1, none⟩ = some (.int .i64 x.n) := by rw [hb1.cell (by simp)]; simp
      have hB1 : Below w.heap.size w w1 := (hB.alloc hB.size _).trans (hb1.mono (by have := hB.size; simp; omega))
      clear hb1 p0 p1
      by_cases hg : goodC x = true
      · have hr : sz l 1 0 = sz (l.drop (j + 1)) (M - 1 + ar x.k) (j + 1) := by
          rw [HRun.out, sz, if_neg (by omega), if_pos hg]
        have Hr := hide hr
        clear hr
        rw [hg]
        go_wp2_with fail
        refine (termsBehind_any x.k _).mono ?_
        rintro e w2 ⟨rfl, rfl⟩
        have hle := ar_le x.k
        clear c0 c1
        obtain ⟨R, hR⟩ : ∃ R, R = ar x.k := ⟨_, rfl⟩
        rw [← hR] at Hr hle ⊢
        clear hR
        by_cases hz : M - 1 + R = 0
        · have hz' : (M : Int) + ((R : Int) - 1) = 0 := by omega
          have hr2 : sz l 1 0 = some (j + 1) := by rw [Hr.out, hz, sz_0]
          have Hr2 := hide hr2
          clear hr2
          go_wp2_with fail
          refine bodyPost_ret (v := .tuple #[.int .i64 ((j : Int) + 1), .bool true]) (by simp [results, Try.results22, go_sem]) rfl ⟨?_, hB1⟩
          rw [Hr2.out]
          simp [szV]
        · have hz' : ¬ (M : Int) + ((R : Int) - 1) = 0 := by omega
          go_wp2_with fail
          refine ⟨⟨j + 1, M - 1 + R, by omega, by omega, by omega, by go_num, by go_num, Hr.out, hB1⟩, by simp [intOf]; omega⟩
      · rw [Bool.not_eq_true] at hg
        have hr : sz l 1 0 = none := by rw [HRun.out, sz, if_neg (by omega), if_neg (by rw [hg]; simp)]
        have Hr := hide hr
        clear hr
        rw [hg]
        go_wp2_with fail
        refine bodyPost_ret (v := .tuple #[.int .i64 0, .bool false]) (by simp [results, Try.results22, go_sem]) rfl ⟨?_, hB1⟩
        rw [Hr.out]
        rfl
    · obtain rfl : j = l.length := by omega
      have hr : sz l 1 0 = none := by rw [HRun.out, List.drop_length, sz, if_neg (by omega)]
      have Hr := hide hr
      clear hr
      go_wp2_with fail
      refine bodyPost_ret (v := .tuple #[.int .i64 0, .bool false]) (by simp [results, Try.results22, go_sem]) rfl ⟨?_, hB⟩
      rw [Hr.out]
      rfl

set_option maxHeartbeats 2000000 in
theorem implGoodT_any (ad : Option Addr) (c : Nat) (l : List Cc) (w : World) (hl : l.length ≤ 1048576) (h : CRow w ad l) :
    Calls Try.prog 13 #[.slice ad l.length c] w fun e w' => e = .returned (.bool (goodT l)) ∧ Below w.heap.size w w' := by
  have HR := hide h
  clear h
  rw [goodT_sz]
  by_cases h6 : l.length ≤ 600
  · have h6' : ¬ (600 : Int) < (l.length : Int) := by omega
    rw [decide_eq_true h6, Bool.true_and]
    have HC := hide (sizeAhead_any ad c l w hl HR.out)
    cases hz : sz l 1 0 with
    | none =>
      rw [hz] at HC
      clear hz
      go_enter Try.func13, Try.ntmps13
      go_wp2_with fail
      refine HC.out.mono ?_
      rintro e w1 ⟨rfl, hb1⟩
      unfold szV
      go_wp2_with fail
      go_ret
      exact ⟨rfl, hb1⟩
    | some n =>
      rw [hz] at HC
      clear hz
      go_enter Try.func13, Try.ntmps13
      go_wp2_with fail
      refine HC.out.mono ?_
      rintro e w1 ⟨rfl, hb1⟩
      unfold szV
      go_wp2_with fail
      go_ret
      exact ⟨ret_bool (by rw [Bool.eq_iff_iff]; simp; omega), hb1⟩
  · have h6' : (600 : Int) < (l.length : Int) := by omega
    rw [decide_eq_false h6]
    go_enter Try.func13, Try.ntmps13
    go_wp2_with fail
    go_ret
    exact ⟨rfl, Below.refl _ _⟩
end Go.Proofs.Ytjalakdpmglamaa.W

/-
  The specification's terms in memory: a tree's kids lie in rows, one within the other. No program here.
-/
namespace Go.Proofs.Ytjalakdpmglamaa.W
open Go.ChangeShapes Go.WideShapes Go.ChangeAt Go.RowKit
set_option linter.unusedVariables false

def tC (x : Cc) (s : Value) : List Value := [.int .i64 x.k, .int .i64 x.n, s]
/-- A slice of n elements, in a block of this kind, whose cells are these. -/
def TLies (w : World) (P : Nat → Prop) (s : Value) (n : Nat) (cs : List Value) : Prop :=
  ∃ g cap, s = .slice (some ⟨g, 0, none⟩) n cap ∧ P g ∧ g < w.heap.size ∧ ∀ j v, cs[j]? = some v → w.cell? ⟨g, j, none⟩ = some v
def Holds (w : World) (P : Nat → Prop) (s : Value) (n : Nat) (cs : List Value) : Prop := (n = 0 ∧ s = .slice none 0 0) ∨ (0 < n ∧ TLies w P s n cs)
def KidsAt (w : World) (P : Nat → Prop) : F → List Value → Prop
  | .nil, cs => cs = []
  | .cons x k r, cs => ∃ s cr, cs = tC x s ++ cr ∧ (∃ ck, KidsAt w P k ck ∧ Holds w P s k.len ck) ∧ KidsAt w P r cr
/-- The kids of a term lie in memory, in blocks of this kind. -/
def KidT (w : World) (P : Nat → Prop) (k : F) (s : Value) : Prop := ∃ ck, KidsAt w P k ck ∧ Holds w P s k.len ck

theorem TLies.keep {w w' : World} {P P' : Nat → Prop} {s : Value} {n : Nat} {cs : List Value} (h : TLies w P s n cs) (hs : w.heap.size ≤ w'.heap.size) (hk : ∀ k, P k → k < w.heap.size → w'.heap[k]? = w.heap[k]? ∧ P' k) : TLies w' P' s n cs := by
  obtain ⟨g, cap, h1, h0, h2, h3⟩ := h
  obtain ⟨e, p⟩ := hk g h0 h2
  exact ⟨g, cap, h1, p, Nat.lt_of_lt_of_le h2 hs, fun j v hj => (World.cell?_of_block (w := w) e).trans (h3 j v hj)⟩
theorem Holds.keep {w w' : World} {P P' : Nat → Prop} {s : Value} {n : Nat} {cs : List Value} (h : Holds w P s n cs) (hs : w.heap.size ≤ w'.heap.size) (hk : ∀ k, P k → k < w.heap.size → w'.heap[k]? = w.heap[k]? ∧ P' k) : Holds w' P' s n cs := by
  rcases h with h | ⟨h1, h2⟩
  · exact .inl h
  · exact .inr ⟨h1, h2.keep hs hk⟩
theorem KidsAt.keep {w w' : World} {P P' : Nat → Prop} (hs : w.heap.size ≤ w'.heap.size) (hk : ∀ k, P k → k < w.heap.size → w'.heap[k]? = w.heap[k]? ∧ P' k) : ∀ {a : F} {cs : List Value}, KidsAt w P a cs → KidsAt w' P' a cs
  | .nil, _, h => h
  | .cons _ _ _, _, ⟨s, cr, e, ⟨ck, h1, h2⟩, h3⟩ => ⟨s, cr, e, ⟨ck, KidsAt.keep hs hk h1, h2.keep hs hk⟩, KidsAt.keep hs hk h3⟩
theorem KidT.keep {w w' : World} {P P' : Nat → Prop} {a : F} {s : Value} (h : KidT w P a s) (hs : w.heap.size ≤ w'.heap.size) (hk : ∀ k, P k → k < w.heap.size → w'.heap[k]? = w.heap[k]? ∧ P' k) : KidT w' P' a s := by
  obtain ⟨ck, h1, h2⟩ := h
  exact ⟨ck, h1.keep hs hk, h2.keep hs hk⟩
theorem KidT.below {w w' : World} {P : Nat → Prop} {a : F} {s : Value} (h : KidT w P a s) (hb : Below w.heap.size w w') : KidT w' P a s := h.keep hb.size (fun k hp hk => ⟨hb.block k hk, hp⟩)
theorem KidT.weak {w : World} {P P' : Nat → Prop} {a : F} {s : Value} (h : KidT w P a s) (hp : ∀ k, P k → k < w.heap.size → P' k) : KidT w P' a s := h.keep (Nat.le_refl _) (fun k h1 h2 => ⟨rfl, hp k h1 h2⟩)
theorem KidsAt.len {w : World} {P : Nat → Prop} : ∀ {a : F} {cs : List Value}, KidsAt w P a cs → cs.length = a.len * 3
  | .nil, _, h => by rw [h]; rfl
  | .cons _ _ r, _, ⟨s, cr, e, _, h3⟩ => by
    have := KidsAt.len h3
    rw [e]; simp [tC, F.len, this]; omega
theorem KidsAt.app {w : World} {P : Nat → Prop} : ∀ {a b : F} {ca cb : List Value}, KidsAt w P a ca → KidsAt w P b cb → KidsAt w P (a.app b) (ca ++ cb)
  | .nil, b, ca, cb, h, hb => by rw [show ca = [] from h]; exact hb
  | .cons _ _ r, b, ca, cb, ⟨s, cr, e, h2, h3⟩, hb => ⟨s, cr ++ cb, by rw [e, List.append_assoc], h2, KidsAt.app h3 hb⟩
theorem KidsAt.split {w : World} {P : Nat → Prop} : ∀ {a b : F} {cs : List Value}, KidsAt w P (a.app b) cs → ∃ ca cb, cs = ca ++ cb ∧ KidsAt w P a ca ∧ KidsAt w P b cb
  | .nil, b, cs, h => ⟨[], cs, rfl, rfl, h⟩
  | .cons _ _ r, b, cs, ⟨s, cr, e, h2, h3⟩ => by
    obtain ⟨ca, cb, e2, ha, hb⟩ := KidsAt.split h3
    exact ⟨tC _ s ++ ca, cb, by rw [e, e2, List.append_assoc], ⟨s, ca, rfl, h2, ha⟩, hb⟩
theorem KidT.one {w : World} {P : Nat → Prop} {a : F} {s : Value} (h : KidT w P a s) : s.oneCell' = true := by
  obtain ⟨ck, _, ⟨_, e⟩ | ⟨_, g, cap, e, _⟩⟩ := h <;> rw [e] <;> rfl
theorem KidT.form {w : World} {P : Nat → Prop} {a : F} {s : Value} (h : KidT w P a s) : ∃ ad c, s = .slice ad a.len c := by
  obtain ⟨ck, _, ⟨e0, e⟩ | ⟨_, g, cap, e, _⟩⟩ := h
  · exact ⟨_, _, by rw [e0]; exact e⟩
  · exact ⟨_, _, e⟩
theorem KidT.nil {w : World} {P : Nat → Prop} : KidT w P .nil (.slice none 0 0) := ⟨[], rfl, .inl ⟨rfl, rfl⟩⟩
/-- The kid behind the first ones. -/
theorem KidT.kid {w : World} {P : Nat → Prop} {a k r : F} {x : Cc} {s : Value} (h : KidT w P (a.app (.cons x k r)) s) : ∃ g cap sx, s = .slice (some ⟨g, 0, none⟩) (a.app (.cons x k r)).len cap ∧ P g ∧ g < w.heap.size ∧ KidT w P k sx ∧
    w.cell? ⟨g, a.len * 3, none⟩ = some (.int .i64 x.k) ∧ w.cell? ⟨g, a.len * 3 + 1, none⟩ = some (.int .i64 x.n) ∧ w.cell? ⟨g, a.len * 3 + 2, none⟩ = some sx := by
  obtain ⟨ck, hk, ⟨e0, e⟩ | ⟨_, g, cap, e, hP, hg, hc⟩⟩ := h
  · rw [F.app_len] at e0; simp [F.len] at e0
  · obtain ⟨ca, cb, e2, ha, sx, cr, e3, h2, h3⟩ := hk.split
    have hl := ha.len
    refine ⟨g, cap, sx, e, hP, hg, h2, hc _ _ ?_, hc _ _ ?_, hc _ _ ?_⟩ <;>
      (rw [e2, e3, ← hl]; simp [tC])

theorem tC_one (x : Cc) (s : Value) (hs : s.oneCell' = true) : ∀ u ∈ tC x s, u.oneCell' = true := by
  intro u hu
  simp only [tC, List.mem_cons, List.not_mem_nil, or_false] at hu
  rcases hu with rfl | rfl | rfl
  · rfl
  · rfl
  · exact hs
theorem tC_cells {w : World} {g : Nat} {x : Cc} {s : Value} {t : TypeId} (h : w.heap[g]? = some (.cells #[.int .i64 x.k, .int .i64 x.n, s] t (0, 0))) :
    ∀ j u, (tC x s)[j]? = some u → w.cell? ((⟨g, 0, none⟩ : Addr).add j) = some u := by
  intro j u hu
  have hadd : (⟨g, 0, none⟩ : Addr).add j = ⟨g, j, none⟩ := by unfold Addr.add; split <;> simp_all
  rw [hadd, cell_of_blk h, ← hu]
  simp [tC]
theorem tOwn_keep {w w' : World} {base n size : Nat} {e : TypeId} {v : Value} {xs : List Value} (h : w.ownsRow base e size v n xs) (hk : ∀ k, base ≤ k → k < w.heap.size → w'.heap[k]? = w.heap[k]?) : w'.ownsRow base e size v n xs := by
  refine ⟨h.1, ?_⟩
  rcases h.2 with h0 | ⟨g, cap, cur, hv, hg, hh, rest⟩
  · exact .inl h0
  · exact .inr ⟨g, cap, cur, hv, hg, (hk g hg (Array.getElem?_eq_some_iff.1 hh).1).trans hh, rest⟩
theorem tOwn_some {w : World} {base n size : Nat} {e : TypeId} {v : Value} {xs : List Value} (h : w.ownsRow base e size v n xs) (hn : 0 < n) : ∃ g cap, v = .slice (some ⟨g, 0, none⟩) n cap ∧ base ≤ g ∧ g < w.heap.size := by
  rcases h.2 with ⟨_, h0⟩ | ⟨g, cap, cur, hv, hg, hh, rest⟩
  · omega
  · exact ⟨g, cap, hv, hg, (Array.getElem?_eq_some_iff.1 hh).1⟩
theorem tOwn_lies {w : World} {base n size : Nat} {e : TypeId} {s : Value} {cs : List Value} (h : w.ownsRow base e size s n cs) (hn : 0 < n) : ∃ g cap, s = .slice (some ⟨g, 0, none⟩) n cap ∧ base ≤ g ∧ g < w.heap.size ∧ ∀ j v, cs[j]? = some v → w.cell? ⟨g, j, none⟩ = some v := by
  rcases h.2 with ⟨_, h0⟩ | ⟨g, cap, cur, hv, hg, hh, h1, h2, h3, h4⟩
  · omega
  · refine ⟨g, cap, hv, hg, (Array.getElem?_eq_some_iff.1 hh).1, fun j v hj => ?_⟩
    have hlt : j < n * size := by rw [← h.1]; exact (List.getElem?_eq_some_iff.1 hj).1
    rw [cell_of_blk hh, ← hj, ← h4, List.getElem?_take_of_lt hlt]
    simp

theorem infoT : (Try.prog.info? 32).map (fun i => (i.zero, i.size, i.bytes)) = some (some (.agg #[.int .i64 0, .int .i64 0, .slice none 0 0]), 3, 40) := by kernel_rfl
theorem infoPartsT {P : Program} {t : TypeId} {z : Option Value} {sz by_ : Nat} (h : (P.info? t).map (fun i => (i.zero, i.size, i.bytes)) = some (z, sz, by_)) : ∃ i, P.info? t = some i ∧ i.zero = z ∧ i.size = sz ∧ i.bytes = by_ := by
  obtain ⟨i, hi, e⟩ := Option.map_eq_some_iff.1 h
  simp only [Prod.mk.injEq] at e
  exact ⟨i, hi, e.1, e.2.1, e.2.2⟩
end Go.Proofs.Ytjalakdpmglamaa.W

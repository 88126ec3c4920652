/-
  Some texts of this proof in one: TeG, ApS, TeS, TeZ.
-/
import Derived.Test.YtjmgnljjeogdlaaJaa
import Derived.Test.YtjmgnljjeogdlaaLow
import Derived.Laws.AppendOwn
/-
  Contracts of the program's termsBehind, isFar, goodCell, sizeAhead, GoodTerm, and of the specification's l3Arity and l3Cell. Conditions: at most 1048576 cells.
-/
namespace Go.Proofs.Ytjmgnljjeogdlaa.W
open Go.ChangeShapes Go.WideShapes Go.ChangeAt Go.RowKit
set_option linter.unusedVariables false

set_option maxHeartbeats 400000 in
theorem termsBehind_any (k : Int) (w : World) :
    Calls Try.prog 61 #[.int .i64 k] w fun e w' => e = .returned (.int .i64 (ar k : Int)) ∧ w' = w := by
  go_enter Try.func61, Try.ntmps61
  go_wp2
  all_goals
    go_ret
    refine ⟨ret_int ?_, rfl⟩
    simp_all [ar]

set_option maxHeartbeats 400000 in
theorem isFar_any (n : Int) (w : World) :
    Calls Try.prog 24 #[.int .i64 n] w fun e w' => e = .returned (.bool (inB n 0 99)) ∧ w' = w := by
  go_enter Try.func24, Try.ntmps24
  go_wp2
  all_goals
    go_ret
    refine ⟨ret_bool ?_, rfl⟩
    simp [inB, *]
  all_goals omega

set_option maxHeartbeats 1000000 in
theorem goodCell_any (x : Cc) (w : World) :
    Calls Try.prog 76 #[.agg #[.int .i64 x.k, .int .i64 x.n]] w fun e w' => e = .returned (.bool (goodC x)) ∧ Below w.heap.size w w' := by
  obtain ⟨k, n⟩ := x
  simp only
  by_cases k1 : k = 1
  · subst k1
    go_enter Try.func76, Try.ntmps76
    go_wp2_with fail
    refine (isFar_any _ _).mono ?_
    rintro e w' ⟨rfl, rfl⟩
    go_wp2_with fail
    go_ret
    exact ⟨rfl, (Below.refl _ _).alloc (Nat.le_refl _) _⟩
  · by_cases k2 : k = 2
    · subst k2
      go_enter Try.func76, Try.ntmps76
      go_wp2
      all_goals
        go_ret
        refine ⟨ret_bool ?_, (Below.refl _ _).alloc (Nat.le_refl _) _⟩
        simp [goodC, inB, *]
      all_goals omega
    · go_enter Try.func76, Try.ntmps76
      go_wp2
      all_goals
        go_ret
        refine ⟨ret_bool ?_, (Below.refl _ _).alloc (Nat.le_refl _) _⟩
        rw [Bool.eq_iff_iff]
        simp_all [goodC, inB]
      all_goals (try omega)

set_option maxHeartbeats 400000 in
theorem l3Arity_any (k : Int) (w : World) :
    Calls Try.prog 79 #[.int .i64 k] w fun e w' => e = .returned (.int .i64 (if inB k 1 7 = true then (ar k : Int) else -1)) ∧ w' = w := by
  go_enter Try.func79, Try.ntmps79
  go_wp2
  all_goals
    go_ret
    refine ⟨ret_int ?_, rfl⟩
    simp_all [ar, inB]
  all_goals omega

set_option maxHeartbeats 1000000 in
theorem l3Cell_any (x : Cc) (w : World) :
    Calls Try.prog 78 #[.agg #[.int .i64 x.k, .int .i64 x.n]] w fun e w' => e = .returned (.bool (goodC x)) ∧ Below w.heap.size w w' := by
  obtain ⟨k, n⟩ := x
  simp only
  by_cases k1 : k = 1
  · subst k1
    go_enter Try.func78, Try.ntmps78
    go_wp2_with fail
    refine (l1In_any _ _ _ _).mono ?_
    rintro e w' ⟨rfl, rfl⟩
    go_wp2_with fail
    go_ret
    exact ⟨rfl, (Below.refl _ _).alloc (Nat.le_refl _) _⟩
  · by_cases k2 : k = 2
    · subst k2
      go_enter Try.func78, Try.ntmps78
      go_wp2_with fail
      refine (l1In_any _ _ _ _).mono ?_
      rintro e w' ⟨rfl, rfl⟩
      go_wp2_with fail
      go_ret
      exact ⟨rfl, (Below.refl _ _).alloc (Nat.le_refl _) _⟩
    · have hg : goodC ⟨k, n⟩ = (decide (n = 0) && inB k 3 7) := by simp [goodC, k1, k2]
      rw [hg]
      clear hg
      by_cases hn : n = 0
      · subst hn
        have ha : decide ((0 : Int) < if inB k 1 7 = true then (ar k : Int) else -1) = inB k 3 7 := by
          rw [Bool.eq_iff_iff]
          simp only [inB, ar, decide_eq_true_eq, Bool.and_eq_true]
          split <;> (try split) <;> (try split) <;> (try split) <;> simp <;> omega
        obtain ⟨R, hR⟩ : ∃ R, R = if inB k 1 7 = true then (ar k : Int) else -1 := ⟨_, rfl⟩
        have hc := l3Arity_any k
        rw [← hR] at hc ha
        clear hR
        rw [← ha]
        have HC := hide hc
        clear hc ha
        go_enter Try.func78, Try.ntmps78
        go_wp2_with (go_at_call 79; refine (HC.out _).mono ?_; rintro e w' ⟨rfl, rfl⟩)
        all_goals
          go_ret
          refine ⟨ret_bool (by simp_all), (Below.refl _ _).alloc (Nat.le_refl _) _⟩
      · go_enter Try.func78, Try.ntmps78
        go_wp2
        all_goals
          go_ret
          refine ⟨ret_bool (by simp [hn]), (Below.refl _ _).alloc (Nat.le_refl _) _⟩

/-- What sizeAhead tells. -/
def szV : Option Nat → Value
  | none => .tuple #[.int .i64 0, .bool false]
  | some n => .tuple #[.int .i64 (n : Int), .bool true]

set_option maxHeartbeats 2000000 in
theorem sizeAhead_any (ad : Option Addr) (c : Nat) (l : List Cc) (w : World) (hl : l.length ≤ 1048576) (h : CRow w ad l) :
    Calls Try.prog 52 #[.slice ad l.length c] w fun e w' => e = .returned (szV (sz l 1 0)) ∧ Below w.heap.size w w' := by
  have HR := hide h
  clear h
  go_enter Try.func52, Try.ntmps52
  go_wp2_with fail
  go_loopw [4, 9] (fun m i w' => ∃ (j M : Nat), j ≤ l.length ∧ 0 < M ∧ M ≤ 2 * j + 1 ∧ m = .int .i64 M ∧ i = .int .i64 j ∧ sz l 1 0 = sz (l.drop j) M j ∧ Below w.heap.size w w') (fun _ i _ => l.length - (intOf i).toNat)
  case atStart => exact ⟨0, 1, by omega, by omega, by omega, rfl, rfl, rfl, Below.refl _ _⟩
  case round =>
    obtain ⟨j, M, hj, hM0, hM, rfl, rfl, hrun, hB⟩ := hrel
    have HRun := hide hrun
    clear hrun
    by_cases hlt : j < l.length
    · have hlt' : (j : Int) < (l.length : Int) := by omega
      obtain ⟨b, o, rfl, hb, p0, p1⟩ := HR.out.tok hB hlt
      have hd : l.drop j = l[j] :: l.drop (j + 1) := List.drop_eq_getElem_cons hlt
      obtain ⟨x, hx⟩ : ∃ x, x = l[j] := ⟨_, rfl⟩
      rw [← hx] at p0 p1 hd
      rw [hd] at HRun
      clear hx hd
      go_wp2_with fail
      refine (goodCell_any x _).mono ?_
      rintro e w1 ⟨rfl, hb1⟩
      have c0 : w1.cell? ⟨wr.heap.size, 0, none⟩ = some (.int .i64 x.k) := by rw [hb1.cell (by simp)]; simp
      have c1 : w1.cell? ⟨wr.heap.size, 1, none⟩ = some (.int .i64 x.n) := by rw [hb1.cell (by simp)]; simp
      have hB1 : Below w.heap.size w w1 := (hB.alloc hB.size _).trans (hb1.mono (by have := hB.size; simp; omega))
      clear hb1 p0 p1
      by_cases hg : goodC x = true
      · have hr : sz l 1 0 = sz (l.drop (j + 1)) (M - 1 + ar x.k) (j + 1) := by
          rw [HRun.out, sz, if_neg (by omega), if_pos hg]
        have Hr := hide hr
        clear hr
        rw [hg]
        go_wp2_with fail
        refine (termsBehind_any x.k _).mono ?_
        rintro e w2 ⟨rfl, rfl⟩
        have hle := ar_le x.k
        clear c0 c1
        obtain ⟨R, hR⟩ : ∃ R, R = ar x.k := ⟨_, rfl⟩
        rw [← hR] at Hr hle ⊢
        clear hR
        by_cases hz : M - 1 + R = 0
        · have hz' : (M : Int) + ((R : Int) - 1) = 0 := by omega
          have hr2 : sz l 1 0 = some (j + 1) := by rw [Hr.out, hz, sz_0]
          have Hr2 := hide hr2
          clear hr2
          go_wp2_with fail
          refine bodyPost_ret (v := .tuple #[.int .i64 ((j : Int) + 1), .bool true]) (by simp [results, Try.results52, go_sem]) rfl ⟨?_, hB1⟩
          rw [Hr2.out]
          simp [szV]
        · have hz' : ¬ (M : Int) + ((R : Int) - 1) = 0 := by omega
          go_wp2_with fail
          refine ⟨⟨j + 1, M - 1 + R, by omega, by omega, by omega, by go_num, by go_num, Hr.out, hB1⟩, by simp [intOf]; omega⟩
      · rw [Bool.not_eq_true] at hg
        have hr : sz l 1 0 = none := by rw [HRun.out, sz, if_neg (by omega), if_neg (by rw [hg]; simp)]
        have Hr := hide hr
        clear hr
        rw [hg]
        go_wp2_with fail
        refine bodyPost_ret (v := .tuple #[.int .i64 0, .bool false]) (by simp [results, Try.results52, go_sem]) rfl ⟨?_, hB1⟩
        rw [Hr.out]
        rfl
    · obtain rfl : j = l.length := by omega
      have hr : sz l 1 0 = none := by rw [HRun.out, List.drop_length, sz, if_neg (by omega)]
      have Hr := hide hr
      clear hr
      go_wp2_with fail
      refine bodyPost_ret (v := .tuple #[.int .i64 0, .bool false]) (by simp [results, Try.results52, go_sem]) rfl ⟨?_, hB⟩
      rw [Hr.out]
      rfl

set_option maxHeartbeats 2000000 in
theorem implGoodT_any (ad : Option Addr) (c : Nat) (l : List Cc) (w : World) (hl : l.length ≤ 1048576) (h : CRow w ad l) :
    Calls Try.prog 23 #[.slice ad l.length c] w fun e w' => e = .returned (.bool (goodT l)) ∧ Below w.heap.size w w' := by
  have HR := hide h
  clear h
  rw [goodT_sz]
  by_cases h6 : l.length ≤ 600
  · have h6' : ¬ (600 : Int) < (l.length : Int) := by omega
    rw [decide_eq_true h6, Bool.true_and]
    have HC := hide (sizeAhead_any ad c l w hl HR.out)
    cases hz : sz l 1 0 with
    | none =>
      rw [hz] at HC
      clear hz
      go_enter Try.func23, Try.ntmps23
      go_wp2_with fail
      refine HC.out.mono ?_
      rintro e w1 ⟨rfl, hb1⟩
      unfold szV
      go_wp2_with fail
      go_ret
      exact ⟨rfl, hb1⟩
    | some n =>
      rw [hz] at HC
      clear hz
      go_enter Try.func23, Try.ntmps23
      go_wp2_with fail
      refine HC.out.mono ?_
      rintro e w1 ⟨rfl, hb1⟩
      unfold szV
      go_wp2_with fail
      go_ret
      exact ⟨ret_bool (by rw [Bool.eq_iff_iff]; simp; omega), hb1⟩
  · have h6' : (600 : Int) < (l.length : Int) := by omega
    rw [decide_eq_false h6]
    go_enter Try.func23, Try.ntmps23
    go_wp2_with fail
    go_ret
    exact ⟨rfl, Below.refl _ _⟩
end Go.Proofs.Ytjmgnljjeogdlaa.W

/-
  append to a row of one's own: where the row lies afterwards: in its old block, or in a new one. No program here.
-/
namespace Go.Proofs.Ytjmgnljjeogdlaa.W
open Go.ChangeShapes Go.WideShapes Go.ChangeAt Go.RowKit

/-- The row lies in its old block, or in a new one. -/
def Apart (w : World) (v v' : Value) : Prop := ∀ g, v'.ownBlock = some g → v.ownBlock = some g ∨ w.heap.size ≤ g

theorem run_append_sep {P : Program} (w : World) (base : Nat) (t ty e : TypeId) (i : TypeInfo) (z : Value) (size bytes : Nat) (ht : P.underlying t = some (.slice e)) (hi : P.info? e = some i) (hz : i.zero = some z)
    (hsize : i.size = size) (hby : i.bytes = bytes) (hzs : z.cells.size = size) (hsz : 0 < size)
    (v : Value) (n : Nat) (xs : List Value) (hown : w.ownsRow base e size v n xs)
    (a : Addr) (m c : Nat) (news : List Value) (hl : news.length = m * size) (hnews : ∀ j u, news[j]? = some u → w.cell? (a.add j) = some u) (h1 : ∀ u ∈ news, u.oneCell' = true)
    (h63 : n + m ≤ maxLen) (hbytes : (n + m) * bytes ≤ 140737488355328) (hbase : base ≤ w.heap.size) :
    ∃ v' w', (Builtin.append_ #[t, t] ty #[v, .slice (some a) m c]).run P w = .ok v' w' ∧ w'.ownsRow base e size v' (n + m) (xs ++ news) ∧ w.grownBy w' v.ownBlock ∧ Apart w v v' := by
  obtain ⟨v', w', hr, h2, h3, h4⟩ := run_append_own (P := P) w base t ty e i z size bytes ht hi hz hsize hby hzs hsz v n xs hown a m c news hl hnews h1 h63 hbytes hbase
  refine ⟨v', w', hr, h2, h3, ?_⟩
  rcases hown.2 with ⟨rfl, rfl⟩ | ⟨g, cap, cur, rfl, hbg, hg, hnc, hcm, hcs, htake⟩
  · have hx : xs = [] := List.eq_nil_of_length_eq_zero (by simpa using hown.1)
    subst hx
    obtain ⟨v2, w2, hr2, h22, -, -⟩ := run_append_own (P := P) w w.heap.size t ty e i z size bytes ht hi hz hsize hby hzs hsz _ 0 [] (World.ownsRow_nil _ _ _ _) a m c news hl hnews h1 h63 hbytes (Nat.le_refl _)
    have he := hr.symm.trans hr2
    injection he with e1 e2
    subst e1
    exact fun g hg => .inr (h22.lt g hg).1
  · subst hsize
    subst hby
    by_cases hroom : n + m ≤ cap
    · have hfit : n * i.size + news.length ≤ cur.size := by rw [hl, hcs, ← Nat.add_mul]; exact Nat.mul_le_mul_right _ hroom
      have hr2 := run_append_room (P := P) w t ty e i ht hi g n cap cur hg a m c news hl hnews h1 hroom hfit
      have he := hr.symm.trans hr2
      injection he with e1 e2
      subst e1
      exact fun k hk => .inl (by simpa [Value.ownBlock] using hk)
    · have holds : ∀ j u, xs[j]? = some u → w.cell? ((⟨g, 0, none⟩ : Addr).add j) = some u := hown.cells (g := g) rfl
      have hsmall : n + m ≤ 9223372036854775807 := by simp only [maxLen] at h63; omega
      have hr2 := run_append_grow (P := P) w t ty e i z ht hi hz ⟨g, 0, none⟩ n cap xs hown.1 holds a m c news hl hnews (by omega) (by omega) (growslice_fits (by omega) hbytes)
      have he := hr.symm.trans hr2
      injection he with e1 e2
      subst e1
      exact fun k hk => .inr (by simp only [Value.ownBlock, Option.some.injEq] at hk; omega)

theorem wpList_append_sep {P : Program} {w : World} {ops : Array Oper} {rest : List Oper} {o : Oper} {a : Act} {Q : Exit → Act → World → Prop} (hgd : o.guard = none) (s x : Operand) (t : TypeId)
    (ho : o.op = .call { callee := .builtin .append, args := #[s, x], argTypes := #[t, t] })
    (base : Nat) (e : TypeId) (i : TypeInfo) (z : Value) (size bytes : Nat) (ht : P.underlying t = some (.slice e)) (hi : P.info? e = some i) (hz : i.zero = some z)
    (hsize : i.size = size) (hby : i.bytes = bytes) (hzs : z.cells.size = size) (hsz : 0 < size)
    (v : Value) (n : Nat) (xs : List Value) (hs : a.eval s = v) (hown : w.ownsRow base e size v n xs)
    (ad : Addr) (m c : Nat) (news : List Value) (hx : a.eval x = .slice (some ad) m c) (hl : news.length = m * size) (hnews : ∀ j u, news[j]? = some u → w.cell? (ad.add j) = some u) (h1 : ∀ u ∈ news, u.oneCell' = true)
    (h63 : n + m ≤ maxLen) (hbytes : (n + m) * bytes ≤ 140737488355328) (hbase : base ≤ w.heap.size)
    (h : ∀ v' w', w'.ownsRow base e size v' (n + m) (xs ++ news) → w.grownBy w' v.ownBlock → Apart w v v' → wpList P ops Q rest (a.put o.dst v') w') : wpList P ops Q (o :: rest) a w :=
  wpList_plain hgd fun _ hK => by
    obtain ⟨v', w', hr, h2, h3, h4⟩ := run_append_sep (P := P) w base t o.type e i z size bytes ht hi hz hsize hby hzs hsz v n xs hown ad m c news hl hnews h1 h63 hbytes hbase
    unfold Oper.wp execOp
    simp only [ho, resolve, invoke, builtin, Sem.run_bind, Sem.run_pure, Result.andThen_ok, List.map_toArray, List.map_cons, List.map_nil, hs, hx, hr]
    exact hK _ _ (h v' w' h2 h3 h4)
end Go.Proofs.Ytjmgnljjeogdlaa.W

/-
  The specification's reader of terms: contracts of l3Read, l3Tree and GoodTerm: a row of cells is read as a tree that lies in new memory. Conditions: at most 1048576 cells.
-/
namespace Go.Proofs.Ytjmgnljjeogdlaa.W
open Go.ChangeShapes Go.WideShapes Go.ChangeAt Go.RowKit
set_option linter.unusedVariables false

/-- What l3Read tells of what is read. -/
def TRdOut (w' : World) (lo n : Nat) (e : Ending) : Option (F × List Cc) → Prop
  | none => e = .returned (.tuple #[.agg #[.int .i64 0, .int .i64 0, .slice none 0 0], .int .i64 0])
  | some (a, r) => ∃ x k s, a = .cons x k .nil ∧ e = .returned (.tuple #[.agg #[.int .i64 x.k, .int .i64 x.n, s], .int .i64 ((n - r.length : Nat) : Int)]) ∧ KidT w' (fun g => lo ≤ g) k s

theorem good_ar {x : Cc} (h : goodC x = true) : inB x.k 1 7 = true := by
  unfold goodC at h
  simp only [inB, Bool.and_eq_true, decide_eq_true_eq] at h ⊢
  split at h
  · omega
  · split at h
    · omega
    · simp only [Bool.and_eq_true, decide_eq_true_eq] at h; omega
theorem rt_end {l a r : List Cc} {n : Nat} (h : l.drop n = a ++ r) : r = l.drop (l.length - r.length) := by
  have hl : (l.drop n).length = a.length + r.length := by rw [h]; simp
  rw [List.length_drop] at hl
  by_cases hn : n ≤ l.length
  · have : l.drop (n + a.length) = r := by rw [← List.drop_drop, h]; simp
    rw [← this]
    congr 1
    rw [List.length_drop]; omega
  · have h0 : r = [] := List.eq_nil_of_length_eq_zero (by omega)
    rw [h0]; simp

def TRdGoal (ad : Option Addr) (c : Nat) (l : List Cc) (at_ : Nat) (w : World) : Prop :=
    Calls Try.prog 55 #[.slice ad l.length c, .int .i64 at_] w fun e w' => Below w.heap.size w w' ∧ TRdOut w' w.heap.size l.length e (rt 1 (l.drop at_))
def TRdIH (f : Nat) (ad : Option Addr) (c : Nat) (l : List Cc) : Prop := ∀ (at' : Nat) (w' : World), CRow w' ad l → at' ≤ l.length → l.length - at' ≤ f → TRdGoal ad c l at' w'

set_option maxHeartbeats 1000000 in
theorem l3Read_none (ad : Option Addr) (c : Nat) (l : List Cc) (at_ : Nat) (w : World) (hl : l.length ≤ 1048576) (hge : l.length ≤ at_) (ha : at_ ≤ l.length) : TRdGoal ad c l at_ w := by
  unfold TRdGoal
  have hr : rt 1 (l.drop at_) = none := by rw [List.drop_eq_nil_of_le hge]; rfl
  rw [hr]
  have hge' : ¬ (at_ : Int) < (l.length : Int) := by omega
  go_enter Try.func55, Try.ntmps55
  go_wp2_with fail
  exact bodyPost_ret (v := .tuple #[.agg #[.int .i64 0, .int .i64 0, .slice none 0 0], .int .i64 0]) (by simp [results, Try.results55, go_sem]) rfl ⟨(Below.refl _ _).alloc (Nat.le_refl _) _, rfl⟩

set_option maxRecDepth 20000 in
set_option maxHeartbeats 4000000 in
theorem l3Read_some (f : Nat) (ad : Option Addr) (c : Nat) (l : List Cc) (at_ : Nat) (w : World) (ih : TRdIH f ad c l) (hl : l.length ≤ 1048576) (hR : CRow w ad l) (hlt : at_ < l.length) (hf : l.length - at_ ≤ f + 1) :
    TRdGoal ad c l at_ w := by
  unfold TRdGoal
  have IH := hide ih
  have HR := hide hR
  clear ih hR
  have hlt' : (at_ : Int) < (l.length : Int) := by omega
  have hnle : ¬ l.length ≤ at_ := by omega
  obtain ⟨b, o, rfl, hb, p0, p1⟩ := HR.out.tok (Below.refl _ _) hlt
  have hd : l.drop at_ = l[at_] :: l.drop (at_ + 1) := List.drop_eq_getElem_cons hlt
  obtain ⟨x, hx⟩ : ∃ x, x = l[at_] := ⟨_, rfl⟩
  rw [← hx] at p0 p1 hd
  rw [hd]
  clear hx hd
  have hne : ∀ (B : Obj), (w.alloc B).heap[w.heap.size]? = some B := fun B => heap_alloc_new w B
  by_cases hg : goodC x = true
  · rw [rt_1 hg]
    obtain ⟨Rt, hRt⟩ : ∃ Rt, Rt = rt (ar x.k) (l.drop (at_ + 1)) := ⟨_, rfl⟩
    rw [← hRt]
    have HRt := hide hRt
    clear hRt
    have hc := l3Cell_any x
    rw [hg] at hc
    have HC := hide hc
    have HN := hide hne
    clear hc hne
    go_enter Try.func55, Try.ntmps55
    go_wp2_with fail
    refine (HC.out _).mono ?_
    rintro e w1 ⟨rfl, hb1⟩
    have H0 := hide ((hb1.block w.heap.size (by simp)).trans (HN.out _))
    have hB : Below w.heap.size w w1 := ((Below.refl _ _).alloc (Nat.le_refl _) _).trans (hb1.mono (by simp))
    have q0 : w1.cell? ⟨b, o + at_ * 2, none⟩ = some (.int .i64 x.k) := by rw [hB.cell hb]; exact p0
    have q1 : w1.cell? ⟨b, o + at_ * 2 + 1, none⟩ = some (.int .i64 x.n) := by rw [hB.cell hb]; exact p1
    clear hb1 p0 p1 HC HN
    have hat0 : (0 : Int) ≤ (at_ : Int) := by omega
    have hb1 : b < w1.heap.size := Nat.lt_of_lt_of_le hb hB.size
    have q2 : (w1.alloc (.cells #[.int .i64 0, .int .i64 0, .slice none 0 0] 55)).cell? ⟨b, o + at_ * 2, none⟩ = some (.int .i64 x.k) := by rw [((Below.refl w1.heap.size w1).alloc (Nat.le_refl _) _).cell hb1]; exact q0
    have q3 : (w1.alloc (.cells #[.int .i64 0, .int .i64 0, .slice none 0 0] 55)).cell? ⟨b, o + at_ * 2 + 1, none⟩ = some (.int .i64 x.n) := by rw [((Below.refl w1.heap.size w1).alloc (Nat.le_refl _) _).cell hb1]; exact q1
    go_wp2_with fail
    go_region
    go_wp2_with fail
    have hS0 : w.heap.size < w1.heap.size := (Array.getElem?_eq_some_iff.1 H0.out).1
    have HE := hide (good_ar hg)
    refine (l3Arity_any _ _).mono ?_
    rintro e w2 ⟨rfl, hw2⟩
    have hB2 : Below w1.heap.size w1 w2 := by
      rw [hw2]
      exact ⟨rfl, rfl, rfl, by show w1.heap.size ≤ (w1.alloc _).heap.size; simp, fun k hk => show (w1.alloc _).heap[k]? = w1.heap[k]? from heap_alloc_old _ _ hk⟩
    have hT2 : w2.heap[w1.heap.size]? = some (.cells #[.int .i64 x.k, .int .i64 x.n, .slice none 0 0] 55 (0, 0)) := by rw [hw2]; exact heap_alloc_new w1 (.cells #[.int .i64 x.k, .int .i64 x.n, .slice none 0 0] 55)
    have hBB : Below w.heap.size w w2 := hB.trans (hB2.mono hB.size)
    have H02 := hide ((hB2.block _ hS0).trans H0.out)
    have HT2 := hide hT2
    have hsz2 : w1.heap.size < w2.heap.size := (Array.getElem?_eq_some_iff.1 hT2).1
    clear hw2 hT2 q0 q1 q2 q3 H0 hat0 hb1 hB hB2
    obtain ⟨T0, hT0⟩ : ∃ T0, T0 = w1.heap.size := ⟨_, rfl⟩
    rw [← hT0] at hS0 HT2 hsz2 ⊢
    clear hT0
    rw [if_pos HE.out]
    have hat1 : (l.length - (l.drop (at_ + 1)).length : Nat) = at_ + 1 := by rw [List.length_drop]; omega
    have HAt := hide hat1
    clear hat1 HE
    obtain ⟨i0, hi0, hz0, hz1, hz2⟩ := infoPartsT infoT
    have Hi := hide hi0
    clear hi0
    have har := ar_le x.k
    obtain ⟨A0, hA0⟩ : ∃ A0, A0 = ar x.k := ⟨_, rfl⟩
    rw [← hA0] at har HRt ⊢
    have HA0 := hide hA0
    clear hA0
    go_wp2_with fail
    go_loopw [1, 7] (fun a1 m7 w' => ∃ (done : F) (r : List Cc) (M : Nat) (s : Value) (cs : List Value), M + done.len = A0 ∧ r.length < l.length - at_ ∧ r = l.drop (l.length - r.length) ∧ a1 = .int .i64 ((l.length - r.length : Nat) : Int) ∧ m7 = .int .i64 M ∧
      Rt = (rt M r).map (fun p => (done.app p.1, p.2)) ∧ Below w.heap.size w w' ∧ T0 < w'.heap.size ∧ w'.heap[w.heap.size]? = some (.cells #[.int .i64 0, .int .i64 0, .slice none 0 0] 55 (0, 0)) ∧ w'.heap[T0]? = some (.cells #[.int .i64 x.k, .int .i64 x.n, s] 55 (0, 0)) ∧
      KidsAt w' (fun g => T0 < g ∧ s.ownBlock ≠ some g) done cs ∧ w'.ownsRow (T0 + 1) 55 3 s done.len cs ∧ Holds w' (fun g => T0 < g) s done.len cs) (fun _ m7 _ => (intOf m7).toNat)
    case atStart =>
      refine ⟨.nil, l.drop (at_ + 1), A0, _, [], by simp [F.len], by rw [List.length_drop]; omega, by rw [HAt.out], by rw [HAt.out]; simp, rfl, ?_, hBB, hsz2, H02.out, HT2.out, rfl, World.ownsRow_nil _ _ _ _, .inl ⟨rfl, rfl⟩⟩
      rw [HRt.out]
      cases rt A0 (l.drop (at_ + 1)) with
      | none => rfl
      | some p => rfl
    case round =>
      obtain ⟨done, r, M, s, cs, hM, hrl, hr, rfl, rfl, hRt, hBr, hTr, hZ, hT, hK, hO, hH⟩ := hrel
      clear H02 HT2 hBB hsz2
      have HK := hide hK
      have HO := hide hO
      have HH := hide hH
      have HZ := hide hZ
      have HT := hide hT
      have Hr := hide hr
      have HRt2 := hide hRt
      clear hK hO hH hZ hT hr hRt
      obtain ⟨sad, sn, sc, rfl⟩ : ∃ sad sn sc, s = .slice sad sn sc := by
        rcases HH.out with ⟨_, e⟩ | ⟨_, g, cap, e, _⟩ <;> exact ⟨_, _, _, e⟩
      cases M with
      | zero =>
        have z0 := cell_of_blk HZ.out 0
        have z1 := cell_of_blk HZ.out 1
        have z2 := cell_of_blk HZ.out 2
        have fz := unfrozen_of_blk HZ.out
        have y0 := cell_of_blk HT.out 0
        have y1 := cell_of_blk HT.out 1
        have y2 := cell_of_blk HT.out 2
        simp only [List.getElem?_toArray, List.getElem?_cons_zero, List.getElem?_cons_succ] at z0 z1 z2 y0 y1 y2
        go_wp2_with fail
        refine bodyPost_ret (v := .tuple #[.agg #[.int .i64 x.k, .int .i64 x.n, .slice sad sn sc], .int .i64 ((l.length - r.length : Nat) : Int)]) (by simp [results, Try.results55, go_sem, *]) rfl ⟨((hBr.setCell (p := ⟨w.heap.size, 0, none⟩) (Nat.le_refl _) _).setCell (p := ⟨w.heap.size, 1, none⟩) (Nat.le_refl _) _).setCell (p := ⟨w.heap.size, 2, none⟩) (Nat.le_refl _) _, ?_⟩
        have e1 : Rt = some (done, r) := by rw [HRt2.out, rt_0]; simp [F.app_nil]
        rw [e1]
        refine ⟨x, done, _, rfl, rfl, ?_⟩
        have hkk : KidT wr (fun g => T0 < g) done (.slice sad sn sc) := ⟨cs, HK.out.keep (Nat.le_refl _) (fun k hk _ => ⟨rfl, hk.1⟩), HH.out⟩
        refine hkk.keep (by simp [World.setCell]) (fun k hk1 hk2 => ⟨?_, by omega⟩)
        have hkn : k ≠ w.heap.size := by omega
        rw [Below.heap_setCell _ _ _ _ hkn, Below.heap_setCell _ _ _ _ hkn, Below.heap_setCell _ _ _ _ hkn]
      | succ M =>
        have hMp : (0 : Int) < ((M + 1 : Nat) : Int) := by omega
        obtain ⟨E0, hE0⟩ : ∃ E0, E0 = l.length - r.length := ⟨_, rfl⟩
        have HE0 := hide hE0
        rw [← hE0] at Hr ⊢
        have hE0l : E0 ≤ l.length := by omega
        have hE0f : l.length - E0 ≤ f := by omega
        clear hE0
        go_wp2_with fail
        refine Calls.mono (IH.out E0 _ (HR.out.below hBr) hE0l hE0f) ?_
        rintro e w3 ⟨hb3, ho3⟩
        rw [← Hr.out] at ho3
        have hsz3 := hb3.size
        have hB3 : Below w.heap.size w w3 := hBr.trans (hb3.mono hBr.size)
        have HZ3 := hide ((hb3.block _ (by omega)).trans HZ.out)
        have HT3 := hide ((hb3.block _ hTr).trans HT.out)
        cases hrd : rt 1 r with
        | none =>
          rw [hrd] at ho3
          have e1 : Rt = none := by rw [HRt2.out, rt_succ, hrd]; rfl
          subst e1
          have ho3' : e = .returned (.tuple #[.agg #[.int .i64 0, .int .i64 0, .slice none 0 0], .int .i64 0]) := ho3
          subst ho3'
          clear ho3 hrd
          have z0 := cell_of_blk HZ3.out 0
          have z1 := cell_of_blk HZ3.out 1
          have z2 := cell_of_blk HZ3.out 2
          have fz := unfrozen_of_blk HZ3.out
          simp only [List.getElem?_toArray, List.getElem?_cons_zero, List.getElem?_cons_succ] at z0 z1 z2
          have hlt3 : w.heap.size < w3.heap.size := (Array.getElem?_eq_some_iff.1 HZ3.out).1
          go_wp2_with fail
          exact bodyPost_ret (v := .tuple #[.agg #[.int .i64 0, .int .i64 0, .slice none 0 0], .int .i64 0]) (by simp [results, Try.results55, go_sem, *]) rfl ⟨(((hB3.setCell (p := ⟨w.heap.size, 0, none⟩) (Nat.le_refl _) _).setCell (p := ⟨w.heap.size, 1, none⟩) (Nat.le_refl _) _).setCell (p := ⟨w.heap.size, 2, none⟩) (Nat.le_refl _) _).alloc (by simp; omega) _, rfl⟩
        | some q =>
          obtain ⟨a, r'⟩ := q
          rw [hrd] at ho3
          obtain ⟨y, ky, sy, rfl, rfl, hTy⟩ := ho3
          have hrf := rt_flat hrd
          have hrl' : r'.length < r.length := by have := congrArg List.length hrf.1; simp [F.flat] at this; omega
          have hr' : r' = l.drop (l.length - r'.length) := rt_end (by rw [Hr.out] at hrf; exact hrf.1)
          have HRd := hide hrd
          have HR' := hide hr'
          clear hrd hrf hr'
          obtain ⟨yad, yc, rfl⟩ := hTy.form
          obtain ⟨yn, hyn⟩ : ∃ yn, yn = ky.len := ⟨_, rfl⟩
          rw [← hyn] at hTy ⊢
          clear hyn
          have HTy := hide hTy
          clear hTy
          have y0 := cell_of_blk HT3.out 0
          have y1 := cell_of_blk HT3.out 1
          have y2 := cell_of_blk HT3.out 2
          have fy := unfrozen_of_blk HT3.out
          simp only [List.getElem?_toArray, List.getElem?_cons_zero, List.getElem?_cons_succ] at y0 y1 y2
          have hne : ¬ ((l.length - r'.length : Nat) : Int) = 0 := by omega
          obtain ⟨E1, hE1⟩ : ∃ E1, E1 = l.length - r'.length := ⟨_, rfl⟩
          rw [← hE1] at hne ⊢
          have HE1 := hide hE1
          clear hE1
          have hlt3 : T0 < w3.heap.size := (Array.getElem?_eq_some_iff.1 HT3.out).1
          have hO3 := tOwn_keep HO.out (w' := w3) (fun k _ hk => hb3.block k hk)
          have hol := HO.out.lt
          have HOl := hide hol
          clear hol
          go_wp2_with (at_builtin; refine wpList_append_sep rfl _ _ 53 rfl (T0 + 1) 55 i0 (.agg #[.int .i64 0, .int .i64 0, .slice none 0 0]) 3 40 Try.underlying53 Hi.out hz0 hz1 hz2 rfl (by decide) _ _ _ rfl ((hO3.alloc _).alloc _) ⟨w3.heap.size + 1, 0, none⟩ 1 1 (tC y (.slice yad yn yc)) rfl rfl ?c1 ?c2 ?c3 ?c4 ?c5 ?_)
          case c1 => exact tC_cells (by have := heap_alloc_new (w3.alloc (.cells #[.int .i64 y.k, .int .i64 y.n, .slice yad yn yc] 55)) (.cells #[.int .i64 y.k, .int .i64 y.n, .slice yad yn yc] 55); simpa using this)
          case c2 => exact tC_one _ _ rfl
          case c3 => unfold maxLen; omega
          case c4 => omega
          case c5 => simp; omega
          intro v' w4 hown4 hgrow hap
          have hb4 : Below (T0 + 1) w3 w4 := (((Below.refl _ _).alloc (by omega) _).alloc (by simp; omega) _).grown hgrow (by simp; omega) (fun k hk => (HOl.out k hk).1)
          have hk4 : ∀ k, (Value.slice sad sn sc).ownBlock ≠ some k → k < w3.heap.size → w4.heap[k]? = w3.heap[k]? := fun k hk hlt => by
            rw [hgrow.block k (by simp; omega) (fun e => hk e.symm), heap_alloc_old _ _ (by simp; omega), heap_alloc_old _ _ hlt]
          have hap' : ∀ k, k < w3.heap.size → (Value.slice sad sn sc).ownBlock ≠ some k → v'.ownBlock ≠ some k := fun k hk hn e => by
            rcases hap k e with h | h
            · exact hn h
            · simp at h; omega
          have hsz4 : w3.heap.size ≤ w4.heap.size := hb4.size
          have HT4 := hide ((hb4.block T0 (by omega)).trans HT3.out)
          have HZ4 := hide ((hb4.block w.heap.size (by omega)).trans HZ3.out)
          obtain ⟨g, cap, rfl, hg0, hg1, hgc⟩ := tOwn_lies hown4 (by omega)
          have HL := hide hgc
          have HK4 := hide hk4
          have HO4 := hide hown4
          have HAp := hide hap'
          clear hown4 hO3 hgrow hgc hap hk4 hap' y0 y1 y2 fy
          have y2 := cell_of_blk HT4.out 2
          have fy := unfrozen_of_blk HT4.out 2
          simp only [List.getElem?_toArray, List.getElem?_cons_zero, List.getElem?_cons_succ] at y2
          go_wp2_with fail
          have hbf : ∀ k, k ≠ T0 → (w4.setCell ⟨T0, 2, none⟩ (.slice (some ⟨g, 0, none⟩) (done.len + 1) cap)).heap[k]? = w4.heap[k]? := fun k hk => Below.heap_setCell _ _ _ _ hk
          have hss : (w4.setCell ⟨T0, 2, none⟩ (.slice (some ⟨g, 0, none⟩) (done.len + 1) cap)).heap.size = w4.heap.size := by simp [World.setCell]
          have hdl : (done.app (.cons y ky .nil)).len = done.len + 1 := by rw [F.app_len]; rfl
          refine ⟨⟨done.app (.cons y ky .nil), r', M, .slice (some ⟨g, 0, none⟩) (done.len + 1) cap, cs ++ tC y (.slice yad yn yc), by omega, by omega, HR'.out, by rw [HE1.out], by go_num, ?_, (hB3.trans (hb4.mono (by omega))).setCell (by simp; omega) _, by rw [hss]; omega, ?_, ?_, ?_, ?_, ?_⟩, by simp [intOf]⟩
          · rw [HRt2.out, rt_succ, HRd.out]
            simp only [Option.map_map]
            congr 1
            funext p
            simp [F.app_assoc]
          · rw [hbf _ (by omega)]; exact HZ4.out
          · rw [blk_setCell HT4.out]; rfl
          · have hown : ∀ k, wr.heap.size ≤ k → (Value.slice sad sn sc).ownBlock ≠ some k := fun k hk e => by have := (HOl.out k e).2; omega
            have k1 : KidsAt (w4.setCell ⟨T0, 2, none⟩ (.slice (some ⟨g, 0, none⟩) (done.len + 1) cap)) (fun k => T0 < k ∧ (Value.slice (some ⟨g, 0, none⟩) (done.len + 1) cap).ownBlock ≠ some k) done cs := by
              refine HK.out.keep (by rw [hss]; omega) (fun k hk1 hk2 => ⟨?_, hk1.1, ?_⟩)
              · rw [hbf k (by omega), HK4.out k hk1.2 (by omega), hb3.block k hk2]
              · exact HAp.out k (by omega) hk1.2
            have k2 : KidT (w4.setCell ⟨T0, 2, none⟩ (.slice (some ⟨g, 0, none⟩) (done.len + 1) cap)) (fun k => T0 < k ∧ (Value.slice (some ⟨g, 0, none⟩) (done.len + 1) cap).ownBlock ≠ some k) ky (.slice yad yn yc) := by
              refine HTy.out.keep (by rw [hss]; omega) (fun k hk1 hk2 => ⟨?_, by omega, ?_⟩)
              · rw [hbf k (by omega), HK4.out k (hown k hk1) hk2]
              · exact HAp.out k hk2 (hown k hk1)
            exact KidsAt.app k1 ⟨.slice yad yn yc, [], (List.append_nil _).symm, k2, rfl⟩
          · rw [hdl]
            exact tOwn_keep HO4.out (fun k hk1 hk2 => hbf k (by omega))
          · rw [hdl]
            refine .inr ⟨by omega, g, cap, rfl, by omega, by rw [hss]; omega, fun j v hj => ?_⟩
            rw [World.cell?_of_block (w := w4) (hbf g (by omega))]
            exact HL.out j v hj
  · rw [Bool.not_eq_true] at hg
    rw [rt_bad hg]
    have hc := l3Cell_any x
    rw [hg] at hc
    have HC := hide hc
    have HN := hide hne
    clear hc hne
    go_enter Try.func55, Try.ntmps55
    go_wp2_with fail
    refine (HC.out _).mono ?_
    rintro e w1 ⟨rfl, hb1⟩
    have H0 := hide ((hb1.block w.heap.size (by simp)).trans (HN.out _))
    have hB : Below w.heap.size w w1 := ((Below.refl _ _).alloc (Nat.le_refl _) _).trans (hb1.mono (by simp))
    clear hb1 p0 p1 HC HN
    have z0 := cell_of_blk H0.out 0
    have z1 := cell_of_blk H0.out 1
    have z2 := cell_of_blk H0.out 2
    have fz := unfrozen_of_blk H0.out
    simp only [List.getElem?_toArray, List.getElem?_cons_zero, List.getElem?_cons_succ] at z0 z1 z2
    go_wp2_with fail
    exact bodyPost_ret (v := .tuple #[.agg #[.int .i64 0, .int .i64 0, .slice none 0 0], .int .i64 0]) (by simp [results, Try.results55, go_sem, *]) rfl ⟨((hB.setCell (p := ⟨w.heap.size, 0, none⟩) (Nat.le_refl _) _).setCell (p := ⟨w.heap.size, 1, none⟩) (Nat.le_refl _) _).setCell (p := ⟨w.heap.size, 2, none⟩) (Nat.le_refl _) _, rfl⟩

theorem l3Read_any : ∀ (f : Nat) (ad : Option Addr) (c : Nat) (l : List Cc) (at_ : Nat) (w : World), l.length ≤ 1048576 → CRow w ad l → at_ ≤ l.length → l.length - at_ ≤ f → TRdGoal ad c l at_ w
  | 0, ad, c, l, at_, w, hl, _, ha, hf => l3Read_none ad c l at_ w hl (by omega) ha
  | f + 1, ad, c, l, at_, w, hl, h, ha, hf => by
    by_cases hlt : at_ < l.length
    · exact l3Read_some f ad c l at_ w (fun at' w' h1 h2 h3 => l3Read_any f ad c l at' w' hl h1 h2 h3) hl h hlt hf
    · exact l3Read_none ad c l at_ w hl (by omega) ha

/-- What l3Tree tells. -/
def TTrOut (w' : World) (lo : Nat) (e : Ending) : Option F → Prop
  | none => ∃ (k n : Int) (sad : Option Addr) (sn sc : Nat), e = .returned (.tuple #[.agg #[.int .i64 k, .int .i64 n, .slice sad sn sc], .bool false])
  | some a => ∃ x k s, a = .cons x k .nil ∧ e = .returned (.tuple #[.agg #[.int .i64 x.k, .int .i64 x.n, s], .bool true]) ∧ KidT w' (fun g => lo ≤ g) k s

set_option maxRecDepth 20000 in
set_option maxHeartbeats 2000000 in
theorem l3Tree_any (ad : Option Addr) (c : Nat) (l : List Cc) (w : World) (hl : l.length ≤ 1048576) (h : CRow w ad l) :
    Calls Try.prog 26 #[.slice ad l.length c] w fun e w' => Below w.heap.size w w' ∧ TTrOut w' w.heap.size e (treeT l) := by
  have HR := hide h
  clear h
  by_cases h6 : l.length ≤ 600
  · have h6' : ¬ (600 : Int) < (l.length : Int) := by omega
    obtain ⟨T, hT⟩ : ∃ T, T = treeT l := ⟨_, rfl⟩
    rw [← hT]
    have HT := hide hT
    clear hT
    go_enter Try.func26, Try.ntmps26
    go_wp2_with fail
    refine Calls.mono (l3Read_any l.length ad c l 0 _ hl (HR.out.below ((Below.refl _ _).alloc (Nat.le_refl _) _)) (by omega) (by omega)) ?_
    rintro e w1 ⟨hb1, ho1⟩
    rw [List.drop_zero] at ho1
    have H0 := hide ((hb1.block w.heap.size (by simp)).trans (heap_alloc_new _ _))
    have hB1 : Below w.heap.size w w1 := ((Below.refl _ _).alloc (Nat.le_refl _) _).trans (hb1.mono (by simp))
    have hsz1 : w.heap.size < w1.heap.size := by have := hb1.size; simp at this; omega
    clear hb1
    have z0 := cell_of_blk H0.out 0
    have z1 := cell_of_blk H0.out 1
    have z2 := cell_of_blk H0.out 2
    have fz := unfrozen_of_blk H0.out
    simp only [List.getElem?_toArray, List.getElem?_cons_zero, List.getElem?_cons_succ] at z0 z1 z2
    cases hr : rt 1 l with
    | none =>
      rw [hr] at ho1
      have e1 : T = none := by rw [HT.out]; unfold treeT; rw [if_pos h6, hr]
      subst e1
      have ho1' : e = .returned (.tuple #[.agg #[.int .i64 0, .int .i64 0, .slice none 0 0], .int .i64 0]) := ho1
      subst ho1'
      clear ho1 hr
      go_wp2_with fail
      exact bodyPost_ret (v := .tuple #[.agg #[.int .i64 0, .int .i64 0, .slice none 0 0], .bool false]) (by simp [results, Try.results26, go_sem, *]) rfl ⟨(((hB1.setCell (p := ⟨w.heap.size, 0, none⟩) (Nat.le_refl _) _).setCell (p := ⟨w.heap.size, 1, none⟩) (Nat.le_refl _) _).setCell (p := ⟨w.heap.size, 2, none⟩) (Nat.le_refl _) _).alloc (by simp; omega) _, _, _, _, _, _, rfl⟩
    | some q =>
      obtain ⟨t, r⟩ := q
      rw [hr] at ho1
      obtain ⟨x, k, s, rfl, rfl, hTr⟩ := ho1
      have hrf := rt_flat hr
      have hrl : r.length < l.length := by have := congrArg List.length hrf.1; simp [F.flat] at this; omega
      obtain ⟨sad, sc, rfl⟩ := hTr.form
      obtain ⟨sn, hsn⟩ : ∃ sn, sn = k.len := ⟨_, rfl⟩
      rw [← hsn] at hTr ⊢
      have HTr := hide hTr
      clear hTr hsn hrf
      by_cases hr0 : r.length = 0
      · have e1 : T = some (.cons x k .nil) := by
          rw [HT.out]; unfold treeT; rw [if_pos h6, hr, List.length_eq_zero_iff.1 hr0]
        subst e1
        have he : ((l.length - r.length : Nat) : Int) = (l.length : Int) := by omega
        rw [he]
        have hpos : (0 : Int) < (l.length : Int) := by omega
        clear hr
        go_wp2_with fail
        refine bodyPost_ret (v := .tuple #[.agg #[.int .i64 x.k, .int .i64 x.n, .slice sad sn sc], .bool true]) (by simp [results, Try.results26, go_sem, *]) rfl ⟨(((hB1.setCell (p := ⟨w.heap.size, 0, none⟩) (Nat.le_refl _) _).setCell (p := ⟨w.heap.size, 1, none⟩) (Nat.le_refl _) _).setCell (p := ⟨w.heap.size, 2, none⟩) (Nat.le_refl _) _).alloc (by simp; omega) _, x, k, .slice sad sn sc, rfl, rfl, ?_⟩
        refine HTr.out.keep (by simp [World.setCell]) (fun g hk1 hk2 => ?_)
        simp at hk1
        have hkn : g ≠ w.heap.size := by omega
        exact ⟨by rw [heap_alloc_old _ _ (by simp [World.setCell]; omega), Below.heap_setCell _ _ _ _ hkn, Below.heap_setCell _ _ _ _ hkn, Below.heap_setCell _ _ _ _ hkn], by omega⟩
      · have e1 : T = none := by
          rw [HT.out]; unfold treeT; rw [if_pos h6, hr]
          cases r with
          | nil => simp at hr0
          | cons y r => rfl
        subst e1
        have hne : ¬ ((l.length - r.length : Nat) : Int) = (l.length : Int) := by omega
        have hpos : (0 : Int) < ((l.length - r.length : Nat) : Int) := by omega
        obtain ⟨E1, hE1⟩ : ∃ E1, E1 = l.length - r.length := ⟨_, rfl⟩
        rw [← hE1] at hne hpos ⊢
        have hnb : ((E1 : Int) == (l.length : Int)) = false := by simp; omega
        clear hr hE1
        go_wp2_with fail
        exact bodyPost_ret (v := .tuple #[.agg #[.int .i64 x.k, .int .i64 x.n, .slice sad sn sc], .bool false]) (by simp [results, Try.results26, go_sem, *]) rfl ⟨(((hB1.setCell (p := ⟨w.heap.size, 0, none⟩) (Nat.le_refl _) _).setCell (p := ⟨w.heap.size, 1, none⟩) (Nat.le_refl _) _).setCell (p := ⟨w.heap.size, 2, none⟩) (Nat.le_refl _) _).alloc (by simp; omega) _, _, _, _, _, _, rfl⟩
  · have h6' : (600 : Int) < (l.length : Int) := by omega
    have ht : treeT l = none := by unfold treeT; rw [if_neg h6]
    rw [ht]
    go_enter Try.func26, Try.ntmps26
    go_wp2_with fail
    exact bodyPost_ret (v := .tuple #[.agg #[.int .i64 0, .int .i64 0, .slice none 0 0], .bool false]) (by simp [results, Try.results26, go_sem]) rfl ⟨(Below.refl _ _).alloc (Nat.le_refl _) _, _, _, _, _, _, rfl⟩

set_option maxHeartbeats 1000000 in
theorem specGoodT_any (ad : Option Addr) (c : Nat) (l : List Cc) (w : World) (hl : l.length ≤ 1048576) (h : CRow w ad l) :
    Calls Try.prog 59 #[.slice ad l.length c] w fun e w' => e = .returned (.bool (goodT l)) ∧ Below w.heap.size w w' := by
  unfold goodT
  have HC := hide (l3Tree_any ad c l w hl h)
  clear h
  obtain ⟨T, hT⟩ : ∃ T, T = treeT l := ⟨_, rfl⟩
  rw [← hT] at HC ⊢
  clear hT
  go_enter Try.func59, Try.ntmps59
  go_wp2_with fail
  refine Calls.mono HC.out ?_
  rintro e w1 ⟨hb1, ho⟩
  clear HC
  cases T with
  | none =>
    obtain ⟨k, n, sad, sn, sc, rfl⟩ := ho
    go_wp2_with fail
    go_ret
    exact ⟨rfl, hb1.alloc hb1.size _⟩
  | some t =>
    obtain ⟨x, k, s, -, rfl, hT⟩ := ho
    obtain ⟨sad, sc, rfl⟩ := hT.form
    clear hT
    go_wp2_with fail
    go_ret
    exact ⟨rfl, hb1.alloc hb1.size _⟩
end Go.Proofs.Ytjmgnljjeogdlaa.W

/-
  How many cells a term has: contracts of l3Size and of both SizeAt. Conditions: at most 1048576 cells.
-/
namespace Go.Proofs.Ytjmgnljjeogdlaa.W
open Go.ChangeShapes Go.WideShapes Go.ChangeAt Go.RowKit
set_option linter.unusedVariables false

/-- What holds of each kid's kids. -/
def F.all (Q : F → Prop) : F → Prop
  | .nil => True
  | .cons _ k r => Q k ∧ r.all Q
theorem F.all_app {Q : F → Prop} : ∀ {a b : F}, (a.app b).all Q ↔ a.all Q ∧ b.all Q
  | .nil, b => by simp [F.app, F.all]
  | .cons _ k r, b => by simp [F.app, F.all, F.all_app (a := r), and_assoc]
theorem F.all_of {Q : F → Prop} (h : ∀ a : F, a.all Q → Q a) : ∀ a : F, a.all Q
  | .nil => trivial
  | .cons _ k r => ⟨h k (F.all_of h k), F.all_of h r⟩
/-- A term from its kids on. -/
theorem F.rec_kids {Q : F → Prop} (h : ∀ a : F, a.all Q → Q a) (a : F) : Q a := h a (F.all_of h a)
theorem F.all_at {Q : F → Prop} {a k r : F} {x : Cc} (h : (a.app (.cons x k r)).all Q) : Q k := (F.all_app.1 h).2.1
theorem F.app_snoc (a k r : F) (x : Cc) : a.app (.cons x k r) = (a.app (.cons x k .nil)).app r := by rw [F.app_assoc]; rfl

def L3SGoal (k : F) : Prop := ∀ (x : Cc) (s : Value) (P : Nat → Prop) (w : World), k.flat.length ≤ 1048576 → KidT w P k s →
    Calls Try.prog 56 #[.agg #[.int .i64 x.k, .int .i64 x.n, s]] w fun e w' => e = .returned (.int .i64 ((k.flat.length + 1 : Nat) : Int)) ∧ Below w.heap.size w w'

set_option maxRecDepth 20000 in
set_option maxHeartbeats 2000000 in
theorem l3Size_any : ∀ k, L3SGoal k := by
  apply F.rec_kids
  intro k ih x s P w hfl hT
  have IH := hide ih
  have HT := hide hT
  obtain ⟨sad, sc, rfl⟩ := hT.form
  clear ih hT
  have hkl := F.len_flat k
  obtain ⟨KL, hKL⟩ : ∃ KL, KL = k.len := ⟨_, rfl⟩
  rw [← hKL] at HT hkl ⊢
  have HKL := hide hKL
  clear hKL
  go_enter Try.func56, Try.ntmps56
  go_wp2_with fail
  go_loopw [3, 9] (fun n3 i w' => ∃ d r : F, k = d.app r ∧ i = .int .i64 (d.len : Int) ∧ n3 = .int .i64 ((d.flat.length + 1 : Nat) : Int) ∧ Below w.heap.size w w') (fun _ i _ => KL - (intOf i).toNat)
  case atStart => exact ⟨.nil, k, rfl, rfl, rfl, (Below.refl _ _).alloc (Nat.le_refl _) _⟩
  case round =>
    obtain ⟨d, r, hk, rfl, rfl, hB⟩ := hrel
    cases r with
    | nil =>
      rw [F.app_nil] at hk
      subst hk
      have hKL := HKL.out
      rw [← hKL]
      clear hKL
      go_wp2_with fail
      go_ret
      exact ⟨rfl, hB⟩
    | cons y ky r =>
      have hkl2 : KL = d.len + (r.len + 1) := by rw [HKL.out, hk, F.app_len]; rfl
      have hlt' : (d.len : Int) < (KL : Int) := by omega
      have hfk : k.flat.length = d.flat.length + (1 + ky.flat.length + r.flat.length) := by rw [hk, F.app_flat]; simp [F.flat]; omega
      have hK := HT.out
      have hI := IH.out
      rw [hk] at hK hI
      obtain ⟨g, cap, sy, he, hP, hg, hTy, p0, p1, p2⟩ := hK.kid
      simp only [Value.slice.injEq] at he
      obtain ⟨rfl, -, rfl⟩ := he
      have q0 := (hB.cell (p := ⟨g, d.len * 3, none⟩) hg).trans p0
      have q1 := (hB.cell (p := ⟨g, d.len * 3 + 1, none⟩) hg).trans p1
      have q2 := (hB.cell (p := ⟨g, d.len * 3 + 2, none⟩) hg).trans p2
      have HC := hide (fun (w' : World) (hw' : Below w.heap.size w w') => F.all_at hI y sy P w' (by omega) (hTy.below hw'))
      obtain ⟨yad, yc, rfl⟩ := hTy.form
      have hsn := F.app_snoc d ky r y
      have hdl : (d.app (.cons y ky .nil)).len = d.len + 1 := by rw [F.app_len]; rfl
      have hdf : (d.app (.cons y ky .nil)).flat.length = d.flat.length + (ky.flat.length + 1) := by rw [F.app_flat]; simp [F.flat]
      have HSn := hide (hk.trans hsn)
      have HDl := hide hdl
      have HDf := hide hdf
      have Hk := hide hk
      clear p0 p1 p2 hTy hK hI hsn hdl hdf hk
      obtain ⟨dl, hdl⟩ : ∃ dl, dl = d.len := ⟨_, rfl⟩
      obtain ⟨df, hdf⟩ : ∃ df, df = d.flat.length := ⟨_, rfl⟩
      obtain ⟨kf, hkf⟩ : ∃ kf, kf = ky.flat.length := ⟨_, rfl⟩
      obtain ⟨kn, hkn⟩ : ∃ kn, kn = ky.len := ⟨_, rfl⟩
      rw [← hdl] at hlt' q0 q1 q2 HDl hkl2 ⊢
      rw [← hdf] at HDf hfk ⊢
      rw [← hkf] at HDf HC hfk
      rw [← hkn] at HC q2
      have HKl2 := hide hkl2
      clear hdl hdf hkf hkn hkl2
      have hfk2 : df + 1 + (kf + 1) ≤ 1048577 := by omega
      have HFk := hide hfk
      clear hfk
      go_wp2_with fail
      refine Calls.mono (HC.out _ (hB.alloc hB.size _)) ?_
      rintro e w2 ⟨rfl, hb2⟩
      have hB2 : Below w.heap.size w w2 := (hB.alloc hB.size _).trans (hb2.mono (by have := hB.size; simp; omega))
      clear hb2 HC q0 q1 q2
      go_wp2_with fail
      have hkl2 := HKl2.out
      exact ⟨⟨d.app (.cons y ky .nil), r, HSn.out, by rw [HDl.out]; go_num, by rw [HDf.out]; go_num, hB2⟩, by simp [intOf]; omega⟩

/-- How many cells the term at a place has. -/
def szT (l : List Cc) (p : Int) : Option Nat := if goodT l = true ∧ 0 ≤ p ∧ p < l.length then sz (l.drop p.toNat) 1 0 else none

theorem szT_within {l : List Cc} (hg : goodT l = true) {q : Nat} (hq : q < l.length) : ∃ x k r, rt 1 (l.drop q) = some (.cons x k .nil, r) ∧ szT l (q : Int) = some (k.flat.length + 1) ∧ k.flat.length < l.length := by
  unfold goodT at hg
  cases ht : treeT l with
  | none => rw [ht] at hg; cases hg
  | some a =>
    obtain ⟨h1, h2, h3, h4, h5⟩ := treeT_flat ht
    obtain ⟨b, r, hr⟩ := rt_within a [] q h2 (by rw [← h1]; exact hq)
    rw [List.append_nil, ← h1] at hr
    obtain ⟨e, o, n⟩ := rt_flat hr
    obtain ⟨x, k, rfl⟩ := F.len_1 n
    refine ⟨x, k, r, hr, ?_, ?_⟩
    · unfold szT
      rw [if_pos ⟨by unfold goodT; rw [ht]; rfl, by omega, by omega⟩, Int.toNat_natCast, sz_rd, hr]
      simp [F.flat]
    · have := congrArg List.length e
      simp [F.flat] at this
      omega
end Go.Proofs.Ytjmgnljjeogdlaa.W

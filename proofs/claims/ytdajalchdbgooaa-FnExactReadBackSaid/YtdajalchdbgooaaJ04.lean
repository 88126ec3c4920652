/-
  Some texts of this proof in one: TeF, TeE, TeI.
-/
import Derived.Test.YtdajalchdbgooaaJ03
import Derived.Laws.AppendOwnNone
/-
  The variables that are bound nowhere, by the specification: contracts of l1Put, l3Binds, l3Free and FreeIn. Conditions: at most 1048576 cells.
-/
namespace Go.Proofs.Ytdajalchdbgooaa.W
open Go.ChangeShapes Go.WideShapes Go.ChangeAt Go.RowKit
set_option linter.unusedVariables false

/-- A slice of numbers that fills its block from the front, or none. -/
def IS (w : World) (s : Value) (l : List Int) : Prop :=
  (s = .slice none 0 0 ∧ l = []) ∨ ∃ g c, s = .slice (some ⟨g, 0, none⟩) l.length c ∧ l.length ≤ c ∧ g < w.heap.size ∧ ∀ i (h : i < l.length), w.cell? ⟨g, i, none⟩ = some (.int .i64 l[i])
theorem IS.below {w w' : World} {s : Value} {l : List Int} (h : IS w s l) (hb : Below w.heap.size w w') : IS w' s l := by
  rcases h with h | ⟨g, c, h1, h2, h3, h4⟩
  · exact .inl h
  · exact .inr ⟨g, c, h1, h2, Nat.lt_of_lt_of_le h3 hb.size, fun i hi => (hb.cell (p := ⟨g, i, none⟩) h3).trans (h4 i hi)⟩
theorem IS.form {w : World} {s : Value} {l : List Int} (h : IS w s l) : ∃ ad c, s = .slice ad l.length c := by
  rcases h with ⟨h1, h2⟩ | ⟨g, c, h1, _⟩
  · exact ⟨none, 0, by rw [h1, h2]; rfl⟩
  · exact ⟨_, _, h1⟩

/-- Where a number goes in a rising list. -/
def putAt (l : List Int) (n : Int) : Nat := (l.takeWhile (· < n)).length
/-- A number put into a rising list. -/
def put (l : List Int) (n : Int) : List Int := if l[putAt l n]? = some n then l else l.take (putAt l n) ++ n :: l.drop (putAt l n)
theorem putAt_le (l : List Int) (n : Int) : putAt l n ≤ l.length := (List.takeWhile_sublist _).length_le
theorem putAt_lt (l : List Int) (n : Int) (i : Nat) (h : i < putAt l n) : l[i]'(Nat.lt_of_lt_of_le h (putAt_le l n)) < n := by
  have h1 : (l.takeWhile (· < n))[i]'h = l[i]'(Nat.lt_of_lt_of_le h (putAt_le l n)) := (List.takeWhile_prefix (p := (· < n)) (l := l)).getElem h
  have h2 : ∀ (l : List Int) x, x ∈ l.takeWhile (· < n) → x < n := by
    intro l
    induction l with
    | nil => intro x hx; cases hx
    | cons y l ih =>
      intro x hx
      by_cases hy : y < n
      · simp only [List.takeWhile_cons, hy, decide_true, if_true, List.mem_cons] at hx
        rcases hx with rfl | hx
        · exact hy
        · exact ih x hx
      · simp [hy] at hx
  have h3 := h2 l _ (List.getElem_mem (l := l.takeWhile (· < n)) h)
  rw [h1] at h3
  simpa using h3
theorem putAt_ge (l : List Int) (n : Int) (h : putAt l n < l.length) : ¬ l[putAt l n] < n := by
  unfold putAt at h ⊢
  induction l with
  | nil => simp at h
  | cons x l ih =>
    by_cases hx : x < n
    · simp only [List.takeWhile_cons, hx, decide_true, if_true, List.length_cons, List.getElem_cons_succ] at h ⊢
      exact ih (by omega)
    · simp [hx]
theorem putAt_is {l : List Int} {n : Int} {k : Nat} (hk : k ≤ l.length) (h1 : ∀ i (h : i < l.length), i < k → l[i] < n) (h2 : ∀ h : k < l.length, ¬ l[k] < n) : putAt l n = k := by
  rcases Nat.lt_trichotomy (putAt l n) k with h | h | h
  · exact absurd (h1 _ (by omega) h) (putAt_ge l n (by omega))
  · exact h
  · exact absurd (putAt_lt l n k h) (h2 (by have := putAt_le l n; omega))

theorem iOwn_form {w : World} {base n size : Nat} {e : TypeId} {v : Value} {xs : List Value} (h : w.ownsRow base e size v n xs) : ∃ ad c, v = .slice ad n c := by
  rcases h.2 with ⟨h1, h2⟩ | ⟨g, cap, cur, hv, _⟩
  · exact ⟨none, 0, by rw [h1, h2]⟩
  · exact ⟨_, _, hv⟩
theorem iAdd (g o j : Nat) : (⟨g, o, none⟩ : Addr).add j = ⟨g, o + j, none⟩ := by unfold Addr.add; split <;> simp_all
theorem iOne (l : List Int) : ∀ u ∈ l.map (Value.int .i64), u.oneCell' = true := by
  intro u hu
  obtain ⟨n, -, rfl⟩ := List.mem_map.1 hu
  rfl
theorem iOneT (l : List Int) (k : Nat) : ∀ u ∈ (l.map (Value.int .i64)).take k, u.oneCell' = true := fun u hu => iOne l u (List.mem_of_mem_take hu)
theorem iOneD (l : List Int) (k : Nat) : ∀ u ∈ (l.map (Value.int .i64)).drop k, u.oneCell' = true := fun u hu => iOne l u (List.mem_of_mem_drop hu)
theorem IS.ofOwn {w : World} {base : Nat} {e : TypeId} {v : Value} {l : List Int} (h : w.ownsRow base e 1 v l.length (l.map (Value.int .i64))) : IS w v l := by
  rcases h.2 with ⟨h1, h2⟩ | ⟨g, cap, cur, hv, hg, hh, h1, h2, h3, h4⟩
  · exact .inl ⟨h1, List.eq_nil_of_length_eq_zero h2⟩
  · refine .inr ⟨g, cap, hv, h1, (Array.getElem?_eq_some_iff.1 hh).1, fun i hi => ?_⟩
    have h5 : (cur.toList.take (l.length * 1))[i]? = some (.int .i64 l[i]) := by rw [h4]; simp [hi]
    rw [cell_of_blk hh, List.getElem?_take_of_lt (by omega)] at *
    simpa using h5

theorem infoInt : (Try.prog.info? 3).map (fun i => (i.zero, i.size, i.bytes)) = some (some (.int .i64 0), 1, 8) := by kernel_rfl

set_option maxRecDepth 20000 in
set_option maxHeartbeats 4000000 in
theorem l1Put_some (l : List Int) (n : Int) (g c : Nat) (w : World) (hl : l.length ≤ 1048576) (hc : l.length ≤ c) (hg : g < w.heap.size) (h : ∀ i (h : i < l.length), w.cell? ⟨g, i, none⟩ = some (.int .i64 l[i])) :
    Calls Try.prog 94 #[.slice (some ⟨g, 0, none⟩) l.length c, .int .i64 n] w fun e w' => ∃ s', e = .returned s' ∧ IS w' s' (put l n) ∧ Below w.heap.size w w' := by
  have HC := hide h
  clear h
  obtain ⟨i0, hi0, hz0, hz1, hz2⟩ := infoPartsT infoInt
  have Hi := hide hi0
  clear hi0
  have hlc : (l.length : Int) ≤ (c : Int) := by omega
  go_enter Try.func94, Try.ntmps94
  go_wp2_with fail
  go_loopw [5] (fun k w' => ∃ j : Nat, j ≤ l.length ∧ k = .int .i64 j ∧ (∀ i (h : i < l.length), i < j → l[i] < n) ∧ w' = w) (fun k _ => l.length - (intOf k).toNat)
  case atStart => exact ⟨0, by omega, rfl, by intros; omega, rfl⟩
  case round =>
    obtain ⟨j, hj, rfl, hall, rfl⟩ := hrel
    have HA := hide hall
    clear hall
    by_cases hlt : j < l.length
    · have hlt' : (j : Int) < (l.length : Int) := by omega
      have hcj := HC.out j hlt
      obtain ⟨x, hx⟩ : ∃ x, x = l[j] := ⟨_, rfl⟩
      rw [← hx] at hcj
      have HX := hide hx
      clear hx
      by_cases hxn : x < n
      · go_wp2_with fail
        refine ⟨⟨j + 1, by omega, by go_num, ?_, trivial⟩, by simp [intOf]; omega⟩
        intro i hi hij
        by_cases e : i = j
        · subst e; rw [← HX.out]; exact hxn
        · exact HA.out i hi (by omega)
      · have hp : putAt l n = j := putAt_is hj HA.out (fun h => by rw [← HX.out]; exact hxn)
        by_cases hxe : x = n
        · have hput : put l n = l := by unfold put; rw [hp, if_pos (by rw [List.getElem?_eq_getElem hlt, ← HX.out, hxe])]
          have HPut := hide hput
          clear hput hp
          go_wp2_with fail
          go_ret
          exact ⟨_, rfl, by rw [HPut.out]; exact .inr ⟨g, c, rfl, hc, hg, HC.out⟩, Below.refl _ _⟩
        · have hput : put l n = l.take j ++ n :: l.drop j := by
            unfold put; rw [hp, if_neg (by rw [List.getElem?_eq_getElem hlt, ← HX.out]; simpa using hxe)]
          have HPut := hide hput
          clear hput hp
          have hxe' : (x == n) = false := by simpa using hxe
          have hjl : (j : Int) ≤ (l.length : Int) := by omega
          have hjc : (j : Int) ≤ (c : Int) := by omega
          have hj0 : (0 : Int) ≤ (j : Int) := by omega
          have hcj0 : ¬ c - j = 0 := by omega
          have t0 : ((l.map (Value.int .i64)).take j).length = j * 1 := by simp; omega
          have t1 : ∀ i u, ((l.map (Value.int .i64)).take j)[i]? = some u → wr.cell? ((⟨g, 0, none⟩ : Addr).add i) = some u := by
            intro i u hu
            rw [List.getElem?_take] at hu
            split at hu
            · rw [List.getElem?_map] at hu
              obtain ⟨y, hy, rfl⟩ := Option.map_eq_some_iff.1 hu
              obtain ⟨hi, rfl⟩ := List.getElem?_eq_some_iff.1 hy
              rw [iAdd, Nat.zero_add]; exact HC.out i hi
            · cases hu
          have T0 := hide t0
          have T1 := hide t1
          clear t0 t1
          have m1 : 0 + j ≤ maxLen := by unfold maxLen; omega
          have m2 : j + 1 ≤ maxLen := by unfold maxLen; omega
          have m3 : j + 1 + (l.length - j) ≤ maxLen := by unfold maxLen; omega
          have M1 := hide m1
          have M2 := hide m2
          have M3 := hide m3
          clear m1 m2 m3
          go_wp2_with (at_builtin; refine wpList_append_own _ rfl _ _ 90 rfl wr.heap.size 3 i0 (.int .i64 0) 1 8 Try.underlying90 Hi.out hz0 hz1 hz2 rfl (by decide) _ _ _ rfl (World.ownsRow_nil _ _ _ _) ⟨g, 0, none⟩ j c ((l.map (Value.int .i64)).take j) rfl T0.out T1.out (iOneT _ _) M1.out (by omega) (Nat.le_refl _) ?_)
          intro v1 w1 hown1 hgrow1 _
          obtain ⟨ad1, c1, rfl⟩ := iOwn_form hown1
          have hB1 : Below wr.heap.size wr w1 := (Below.refl _ _).grown hgrow1 (Nat.le_refl _) (fun k hk => by cases hk)
          have hsz1 := hB1.size
          have HO1 := hide hown1
          clear hown1 hgrow1
          have t2 : ∀ i u, [Value.int .i64 n][i]? = some u → (w1.alloc (.cells #[.int .i64 n] 3)).cell? ((⟨w1.heap.size, 0, none⟩ : Addr).add i) = some u := by
            intro i u hu
            rw [iAdd, Nat.zero_add, cell_of_blk (heap_alloc_new w1 (.cells #[.int .i64 n] 3)), ← hu]
            simp
          have T2 := hide t2
          clear t2
          go_wp2_with (at_builtin; refine wpList_append_own _ rfl _ _ 90 rfl wr.heap.size 3 i0 (.int .i64 0) 1 8 Try.underlying90 Hi.out hz0 hz1 hz2 rfl (by decide) _ _ _ rfl (HO1.out.alloc _) ⟨w1.heap.size, 0, none⟩ 1 1 [.int .i64 n] rfl rfl T2.out (iOne [n]) M2.out (by omega) (by simp; omega) ?_)
          intro v2 w2 hown2 hgrow2 _
          obtain ⟨ad2, c2, rfl⟩ := iOwn_form hown2
          have hB2 : Below wr.heap.size wr w2 := (hB1.alloc hB1.size _).grown hgrow2 (by simp; omega) (fun k hk => (HO1.out.lt k hk).1)
          have hsz2 := hB2.size
          have HO2 := hide hown2
          clear hown2 hgrow2 HO1 hB1 hsz1
          have t3 : ∀ i u, ((l.map (Value.int .i64)).drop j)[i]? = some u → w2.cell? ((⟨g, j, none⟩ : Addr).add i) = some u := by
            intro i u hu
            rw [List.getElem?_drop, List.getElem?_map] at hu
            obtain ⟨y, hy, rfl⟩ := Option.map_eq_some_iff.1 hu
            obtain ⟨hi, rfl⟩ := List.getElem?_eq_some_iff.1 hy
            rw [iAdd, hB2.cell hg]; exact HC.out (j + i) hi
          have T3 := hide t3
          clear t3
          go_wp2_with (at_builtin; refine wpList_append_own _ rfl _ _ 90 rfl wr.heap.size 3 i0 (.int .i64 0) 1 8 Try.underlying90 Hi.out hz0 hz1 hz2 rfl (by decide) _ _ _ rfl HO2.out ⟨g, j, none⟩ (l.length - j) (c - j) ((l.map (Value.int .i64)).drop j) rfl (by simp) T3.out (iOneD _ _) M3.out (by omega) (by omega) ?_)
          intro v3 w3 hown3 hgrow3 _
          obtain ⟨ad3, c3, rfl⟩ := iOwn_form hown3
          have hB3 : Below wr.heap.size wr w3 := hB2.grown hgrow3 (by omega) (fun k hk => (HO2.out.lt k hk).1)
          have HO3 := hide hown3
          clear hown3 hgrow3
          go_wp2_with fail
          go_ret
          refine ⟨_, rfl, ?_, hB3⟩
          rw [HPut.out]
          refine IS.ofOwn (base := wr.heap.size) (e := 3) ?_
          have h3 := HO3.out
          have e1 : (l.take j ++ n :: l.drop j).length = j + 1 + (l.length - j) := by simp; omega
          have e2 : (l.take j ++ n :: l.drop j).map (Value.int .i64) = (l.map (Value.int .i64)).take j ++ [.int .i64 n] ++ (l.map (Value.int .i64)).drop j := by simp [List.map_take, List.map_drop]
          rw [e1, e2]
          simpa using h3
    · have hje : j = l.length := by omega
      have hp : putAt l n = j := putAt_is hj HA.out (fun h => absurd h (by omega))
      have hput : put l n = l.take j ++ n :: l.drop j := by
        unfold put; rw [hp, if_neg (by rw [List.getElem?_eq_none (by omega)]; simp)]
      have HPut := hide hput
      clear hput hp
      have hnlt : ¬ (j : Int) < (l.length : Int) := by omega
      have hjl : (j : Int) ≤ (l.length : Int) := by omega
      have hjc : (j : Int) ≤ (c : Int) := by omega
      have hj0 : (0 : Int) ≤ (j : Int) := by omega
      have HJ := hide hje
      clear hje
      by_cases hcj : c = j
      · subst hcj
        have hjl0 : l.length - c = 0 := by omega
        have t0 : ((l.map (Value.int .i64)).take c).length = c * 1 := by simp; omega
        have t1 : ∀ i u, ((l.map (Value.int .i64)).take c)[i]? = some u → wr.cell? ((⟨g, 0, none⟩ : Addr).add i) = some u := by
          intro i u hu
          rw [List.getElem?_take] at hu
          split at hu
          · rw [List.getElem?_map] at hu
            obtain ⟨y, hy, rfl⟩ := Option.map_eq_some_iff.1 hu
            obtain ⟨hi, rfl⟩ := List.getElem?_eq_some_iff.1 hy
            rw [iAdd, Nat.zero_add]; exact HC.out i hi
          · cases hu
        have T0 := hide t0
        have T1 := hide t1
        clear t0 t1
        have m1 : 0 + c ≤ maxLen := by unfold maxLen; omega
        have m2 : c + 1 ≤ maxLen := by unfold maxLen; omega
        have m3 : c + 1 + (l.length - c) ≤ maxLen := by unfold maxLen; omega
        have M1 := hide m1
        have M2 := hide m2
        have M3 := hide m3
        clear m1 m2 m3
        go_wp2_with (at_builtin; refine wpList_append_own _ rfl _ _ 90 rfl wr.heap.size 3 i0 (.int .i64 0) 1 8 Try.underlying90 Hi.out hz0 hz1 hz2 rfl (by decide) _ _ _ rfl (World.ownsRow_nil _ _ _ _) ⟨g, 0, none⟩ c c ((l.map (Value.int .i64)).take c) rfl T0.out T1.out (iOneT _ _) M1.out (by omega) (Nat.le_refl _) ?_)
        intro v1 w1 hown1 hgrow1 _
        obtain ⟨ad1, c1, rfl⟩ := iOwn_form hown1
        have hB1 : Below wr.heap.size wr w1 := (Below.refl _ _).grown hgrow1 (Nat.le_refl _) (fun k hk => by cases hk)
        have hsz1 := hB1.size
        have HO1 := hide hown1
        clear hown1 hgrow1
        have t2 : ∀ i u, [Value.int .i64 n][i]? = some u → (w1.alloc (.cells #[.int .i64 n] 3)).cell? ((⟨w1.heap.size, 0, none⟩ : Addr).add i) = some u := by
          intro i u hu
          rw [iAdd, Nat.zero_add, cell_of_blk (heap_alloc_new w1 (.cells #[.int .i64 n] 3)), ← hu]
          simp
        have T2 := hide t2
        clear t2
        go_wp2_with (at_builtin; refine wpList_append_own _ rfl _ _ 90 rfl wr.heap.size 3 i0 (.int .i64 0) 1 8 Try.underlying90 Hi.out hz0 hz1 hz2 rfl (by decide) _ _ _ rfl (HO1.out.alloc _) ⟨w1.heap.size, 0, none⟩ 1 1 [.int .i64 n] rfl rfl T2.out (iOne [n]) M2.out (by omega) (by simp; omega) ?_)
        intro v2 w2 hown2 hgrow2 _
        obtain ⟨ad2, c2, rfl⟩ := iOwn_form hown2
        have hB2 : Below wr.heap.size wr w2 := (hB1.alloc hB1.size _).grown hgrow2 (by simp; omega) (fun k hk => (HO1.out.lt k hk).1)
        have hsz2 := hB2.size
        have HO2 := hide hown2
        clear hown2 hgrow2 HO1 hB1 hsz1
        have M4 : Hid (c + 1 + 0 ≤ maxLen) := hide (by unfold maxLen; omega)
        go_wp2_with (at_builtin; refine wpList_append_own _ rfl _ _ 90 rfl wr.heap.size 3 i0 (.int .i64 0) 1 8 Try.underlying90 Hi.out hz0 hz1 hz2 rfl (by decide) _ _ _ rfl HO2.out ⟨g, 0, none⟩ 0 0 [] rfl rfl (by intro i u hu; cases hu) (by intro u hu; cases hu) M4.out (by omega) (by omega) ?_)
        intro v3 w3 hown3 hgrow3 _
        obtain ⟨ad3, c3, rfl⟩ := iOwn_form hown3
        have hB3 : Below wr.heap.size wr w3 := hB2.grown hgrow3 (by omega) (fun k hk => (HO2.out.lt k hk).1)
        have HO3 := hide hown3
        clear hown3 hgrow3
        go_wp2_with fail
        go_ret
        refine ⟨_, rfl, ?_, hB3⟩
        rw [HPut.out]
        refine IS.ofOwn (base := wr.heap.size) (e := 3) ?_
        have h3 := HO3.out
        have hlc2 : l.length = c := by omega
        have e0 : l.drop c = [] := List.drop_eq_nil_of_le (by omega)
        have e1 : (l.take c ++ n :: l.drop c).length = c + 1 := by rw [e0]; simp; omega
        have e2 : (l.take c ++ n :: l.drop c).map (Value.int .i64) = (l.map (Value.int .i64)).take c ++ [.int .i64 n] := by rw [e0]; simp [List.map_take]
        rw [e1, e2]
        simpa using h3
      · have hcj0 : ¬ c - j = 0 := by omega
        have t0 : ((l.map (Value.int .i64)).take j).length = j * 1 := by simp; omega
        have t1 : ∀ i u, ((l.map (Value.int .i64)).take j)[i]? = some u → wr.cell? ((⟨g, 0, none⟩ : Addr).add i) = some u := by
          intro i u hu
          rw [List.getElem?_take] at hu
          split at hu
          · rw [List.getElem?_map] at hu
            obtain ⟨y, hy, rfl⟩ := Option.map_eq_some_iff.1 hu
            obtain ⟨hi, rfl⟩ := List.getElem?_eq_some_iff.1 hy
            rw [iAdd, Nat.zero_add]; exact HC.out i hi
          · cases hu
        have T0 := hide t0
        have T1 := hide t1
        clear t0 t1
        have m1 : 0 + j ≤ maxLen := by unfold maxLen; omega
        have m2 : j + 1 ≤ maxLen := by unfold maxLen; omega
        have m3 : j + 1 + (l.length - j) ≤ maxLen := by unfold maxLen; omega
        have M1 := hide m1
        have M2 := hide m2
        have M3 := hide m3
        clear m1 m2 m3
        go_wp2_with (at_builtin; refine wpList_append_own _ rfl _ _ 90 rfl wr.heap.size 3 i0 (.int .i64 0) 1 8 Try.underlying90 Hi.out hz0 hz1 hz2 rfl (by decide) _ _ _ rfl (World.ownsRow_nil _ _ _ _) ⟨g, 0, none⟩ j c ((l.map (Value.int .i64)).take j) rfl T0.out T1.out (iOneT _ _) M1.out (by omega) (Nat.le_refl _) ?_)
        intro v1 w1 hown1 hgrow1 _
        obtain ⟨ad1, c1, rfl⟩ := iOwn_form hown1
        have hB1 : Below wr.heap.size wr w1 := (Below.refl _ _).grown hgrow1 (Nat.le_refl _) (fun k hk => by cases hk)
        have hsz1 := hB1.size
        have HO1 := hide hown1
        clear hown1 hgrow1
        have t2 : ∀ i u, [Value.int .i64 n][i]? = some u → (w1.alloc (.cells #[.int .i64 n] 3)).cell? ((⟨w1.heap.size, 0, none⟩ : Addr).add i) = some u := by
          intro i u hu
          rw [iAdd, Nat.zero_add, cell_of_blk (heap_alloc_new w1 (.cells #[.int .i64 n] 3)), ← hu]
          simp
        have T2 := hide t2
        clear t2
        go_wp2_with (at_builtin; refine wpList_append_own _ rfl _ _ 90 rfl wr.heap.size 3 i0 (.int .i64 0) 1 8 Try.underlying90 Hi.out hz0 hz1 hz2 rfl (by decide) _ _ _ rfl (HO1.out.alloc _) ⟨w1.heap.size, 0, none⟩ 1 1 [.int .i64 n] rfl rfl T2.out (iOne [n]) M2.out (by omega) (by simp; omega) ?_)
        intro v2 w2 hown2 hgrow2 _
        obtain ⟨ad2, c2, rfl⟩ := iOwn_form hown2
        have hB2 : Below wr.heap.size wr w2 := (hB1.alloc hB1.size _).grown hgrow2 (by simp; omega) (fun k hk => (HO1.out.lt k hk).1)
        have hsz2 := hB2.size
        have HO2 := hide hown2
        clear hown2 hgrow2 HO1 hB1 hsz1
        have t3 : ∀ i u, ((l.map (Value.int .i64)).drop j)[i]? = some u → w2.cell? ((⟨g, j, none⟩ : Addr).add i) = some u := by
          intro i u hu
          rw [List.getElem?_drop, List.getElem?_map] at hu
          obtain ⟨y, hy, rfl⟩ := Option.map_eq_some_iff.1 hu
          obtain ⟨hi, rfl⟩ := List.getElem?_eq_some_iff.1 hy
          rw [iAdd, hB2.cell hg]; exact HC.out (j + i) hi
        have T3 := hide t3
        clear t3
        go_wp2_with (at_builtin; refine wpList_append_own _ rfl _ _ 90 rfl wr.heap.size 3 i0 (.int .i64 0) 1 8 Try.underlying90 Hi.out hz0 hz1 hz2 rfl (by decide) _ _ _ rfl HO2.out ⟨g, j, none⟩ (l.length - j) (c - j) ((l.map (Value.int .i64)).drop j) rfl (by simp) T3.out (iOneD _ _) M3.out (by omega) (by omega) ?_)
        intro v3 w3 hown3 hgrow3 _
        obtain ⟨ad3, c3, rfl⟩ := iOwn_form hown3
        have hB3 : Below wr.heap.size wr w3 := hB2.grown hgrow3 (by omega) (fun k hk => (HO2.out.lt k hk).1)
        have HO3 := hide hown3
        clear hown3 hgrow3
        go_wp2_with fail
        go_ret
        refine ⟨_, rfl, ?_, hB3⟩
        rw [HPut.out]
        refine IS.ofOwn (base := wr.heap.size) (e := 3) ?_
        have h3 := HO3.out
        have e1 : (l.take j ++ n :: l.drop j).length = j + 1 + (l.length - j) := by simp; omega
        have e2 : (l.take j ++ n :: l.drop j).map (Value.int .i64) = (l.map (Value.int .i64)).take j ++ [.int .i64 n] ++ (l.map (Value.int .i64)).drop j := by simp [List.map_take, List.map_drop]
        rw [e1, e2]
        simpa using h3

set_option maxHeartbeats 1000000 in
theorem l1Put_nil (n : Int) (w : World) :
    Calls Try.prog 94 #[.slice none 0 0, .int .i64 n] w fun e w' => ∃ s', e = .returned s' ∧ IS w' s' [n] ∧ Below w.heap.size w w' := by
  obtain ⟨i0, hi0, hz0, hz1, hz2⟩ := infoPartsT infoInt
  have Hi := hide hi0
  clear hi0
  have T2 : Hid (∀ i u, [Value.int .i64 n][i]? = some u → (w.alloc (.cells #[.int .i64 n] 3)).cell? ((⟨w.heap.size, 0, none⟩ : Addr).add i) = some u) := hide (by
    intro i u hu
    rw [iAdd, Nat.zero_add, cell_of_blk (heap_alloc_new w (.cells #[.int .i64 n] 3)), ← hu]
    simp)
  go_enter Try.func94, Try.ntmps94
  go_wp2_with fail
  go_loopw [5] (fun k w' => k = .int .i64 0 ∧ w' = w) (fun k _ => 0)
  case atStart => exact ⟨rfl, rfl⟩
  case round =>
    obtain ⟨rfl, rfl⟩ := hrel
    go_wp2_with (at_builtin; refine wpList_append_own _ rfl _ _ 90 rfl wr.heap.size 3 i0 (.int .i64 0) 1 8 Try.underlying90 Hi.out hz0 hz1 hz2 rfl (by decide) _ _ _ rfl (World.ownsRow_nil _ _ _ _) ⟨wr.heap.size, 0, none⟩ 1 1 [.int .i64 n] rfl rfl T2.out (iOne [n]) (by decide) (by omega) (by simp) ?_)
    intro v2 w2 hown2 hgrow2 _
    obtain ⟨ad2, c2, rfl⟩ := iOwn_form hown2
    have hB2 : Below wr.heap.size wr w2 := ((Below.refl _ _).alloc (Nat.le_refl _) _).grown hgrow2 (by simp) (fun k hk => by cases hk)
    have HO2 := hide hown2
    clear hown2 hgrow2
    go_wp2_with (at_builtin; refine wpList_append_own_none rfl _ _ 90 rfl wr.heap.size 3 i0 1 Try.underlying90 Hi.out _ _ _ rfl HO2.out rfl ?_)
    go_wp2_with fail
    go_ret
    exact ⟨_, rfl, IS.ofOwn (base := wr.heap.size) (e := 3) (l := [n]) HO2.out, hB2⟩
theorem l1Put_any (l : List Int) (n : Int) (s : Value) (w : World) (hl : l.length ≤ 1048576) (h : IS w s l) :
    Calls Try.prog 94 #[s, .int .i64 n] w fun e w' => ∃ s', e = .returned s' ∧ IS w' s' (put l n) ∧ Below w.heap.size w w' := by
  rcases h with ⟨rfl, rfl⟩ | ⟨g, c, rfl, h2, h3, h4⟩
  · exact l1Put_nil n w
  · exact l1Put_some l n g c w hl h2 h3 h4

set_option maxHeartbeats 400000 in
theorem l3Binds_any (k : Int) (i : Nat) (w : World) :
    Calls Try.prog 95 #[.int .i64 k, .int .i64 (i : Int)] w fun e w' => e = .returned (.int .i64 (binds k i : Int)) ∧ w' = w := by
  go_enter Try.func95, Try.ntmps95
  go_wp2
  all_goals
    go_ret
    refine ⟨ret_int ?_, rfl⟩
    simp_all [binds]
  all_goals (try (split <;> omega))
end Go.Proofs.Ytdajalchdbgooaa.W

/-
  The variables that are bound nowhere, by the specification: contracts of l3Free and FreeIn. Conditions: at most 1048576 cells.
-/
namespace Go.Proofs.Ytdajalchdbgooaa.W
open Go.ChangeShapes Go.WideShapes Go.ChangeAt Go.RowKit
set_option linter.unusedVariables false

theorem belowDrew {B : Nat} {x y : World} (h : Below B x y) : Below B x y.drew := ⟨h.os, h.tape, h.output, h.size, h.block⟩
theorem put_len (l : List Int) (n : Int) : (put l n).length ≤ l.length + 1 := by
  unfold put
  split
  · omega
  · simp; omega
/-- The variables of terms that are bound nowhere, put into a list. -/
def fre (pk : Int) (d : Nat) : Nat → F → List Int → List Int
  | _, .nil, o => o
  | i, .cons x k r, o => fre pk d (i + 1) r (if x.k = 1 ∧ ((d + binds pk i : Nat) : Int) ≤ x.n then put o (x.n - ((d + binds pk i : Nat) : Int)) else fre x.k (d + binds pk i) 0 k o)
def fr1 (d : Nat) (x : Cc) (k : F) (o : List Int) : List Int := if x.k = 1 ∧ (d : Int) ≤ x.n then put o (x.n - (d : Int)) else fre x.k d 0 k o
theorem fre_cons (pk : Int) (d i : Nat) (x : Cc) (k r : F) (o : List Int) : fre pk d i (.cons x k r) o = fre pk d (i + 1) r (fr1 (d + binds pk i) x k o) := rfl
theorem fre_app (pk : Int) (d : Nat) : ∀ (a b : F) (i : Nat) (o : List Int), fre pk d i (a.app b) o = fre pk d (i + a.len) b (fre pk d i a o)
  | .nil, b, i, o => rfl
  | .cons x k r, b, i, o => by
    simp only [F.app, fre_cons, fre_app pk d r b, F.len]
    congr 1
    omega
theorem fre_len : ∀ (a : F) (pk : Int) (d i : Nat) (o : List Int), (fre pk d i a o).length ≤ o.length + a.flat.length
  | .nil, _, _, _, o => by simp [fre]
  | .cons x k r, pk, d, i, o => by
    rw [fre]
    refine Nat.le_trans (fre_len r _ _ _ _) ?_
    simp only [F.flat, List.length_cons, List.length_append]
    split
    · have := put_len o (x.n - ((d + binds pk i : Nat) : Int)); omega
    · have := fre_len k x.k (d + binds pk i) 0 o; omega

def L3FGoal (k : F) : Prop := ∀ (x : Cc) (s so : Value) (d : Nat) (o : List Int) (P : Nat → Prop) (w : World), -1000000 ≤ x.n → x.n ≤ 1000000 → k.len = ar x.k → k.ok → d + k.flat.length ≤ 1048576 → o.length + k.flat.length ≤ 1048575 → KidT w P k s → IS w so o →
    Calls Try.prog 65 #[.agg #[.int .i64 x.k, .int .i64 x.n, s], .int .i64 (d : Int), so] w fun e w' => ∃ s', e = .returned s' ∧ IS w' s' (fr1 d x k o) ∧ Below w.heap.size w w'

theorem good_n {x : Cc} (h : goodC x = true) : -1000000 ≤ x.n ∧ x.n ≤ 1000000 := by
  unfold goodC at h
  unfold inB at h
  split at h
  · simp at h; omega
  · split at h
    · simp at h; omega
    · simp at h; omega

set_option maxRecDepth 20000 in
set_option maxHeartbeats 2000000 in
theorem l3Free_any : ∀ k, L3FGoal k := by
  apply F.rec_kids
  intro k ih x s so d o P w hn1 hn2 hka hko hd hol hT hS
  have IH := hide ih
  have HT := hide hT
  have HS := hide hS
  have HKO := hide hko
  obtain ⟨sad, sc, rfl⟩ := hT.form
  obtain ⟨oad, oc, rfl⟩ := hS.form
  clear ih hT hS hko
  by_cases hv : x.k = 1 ∧ (d : Int) ≤ x.n
  · have hf : fr1 d x k o = put o (x.n - (d : Int)) := if_pos hv
    rw [hf]
    obtain ⟨xk, xn⟩ := x
    obtain ⟨rfl, hv2⟩ := hv
    simp only at *
    obtain ⟨KL, hKL⟩ : ∃ KL, KL = k.len := ⟨_, rfl⟩
    rw [← hKL] at HT ⊢
    obtain ⟨OL, hOL⟩ : ∃ OL, OL = o.length := ⟨_, rfl⟩
    rw [← hOL] at HS ⊢
    have HOL := hide hOL
    clear hKL hf hOL
    go_enter Try.func65, Try.ntmps65
    go_wp2_with fail
    refine (l1Put_any o _ _ _ (by omega) (HS.out.below ((Below.refl _ _).alloc (Nat.le_refl _) _))).mono ?_
    rintro e w1 ⟨s', rfl, hs', hb1⟩
    have hB1 : Below w.heap.size w w1 := ((Below.refl _ _).alloc (Nat.le_refl _) _).trans (hb1.mono (by simp))
    have HS' := hide hs'
    obtain ⟨pad, pc, rfl⟩ := hs'.form
    clear hb1 hs'
    go_wp2_with fail
    go_ret
    exact ⟨_, rfl, HS'.out, hB1⟩
  · have hf : fr1 d x k o = fre x.k d 0 k o := if_neg hv
    rw [hf]
    obtain ⟨xk, xn⟩ := x
    simp only at *
    obtain ⟨KL, hKL⟩ : ∃ KL, KL = k.len := ⟨_, rfl⟩
    rw [← hKL] at HT ⊢
    have HKL := hide hKL
    obtain ⟨OL, hOL⟩ : ∃ OL, OL = o.length := ⟨_, rfl⟩
    rw [← hOL] at HS ⊢
    have HOL := hide hOL
    have hkl := F.len_flat k
    rw [← hKL] at hkl
    clear hKL hf hOL
    have hv' : xk = 1 → ¬ (d : Int) ≤ xn := fun h1 h2 => hv ⟨h1, h2⟩
    clear hv
    by_cases hx1 : xk = 1
    · subst hx1
      have hv2 : ¬ (d : Int) ≤ xn := hv' rfl
      have hk0 : k = .nil := F.len_0 (by rw [hka]; rfl)
      subst hk0
      obtain rfl : KL = 0 := HKL.out
      clear hv' hka HKL
      go_enter Try.func65, Try.ntmps65
      go_wp2_with fail
      go_loopw [2, 27] (fun o2 i w' => o2 = .slice oad OL oc ∧ i = .int .i64 0 ∧ w' = w.alloc (.cells #[.int .i64 1, .int .i64 xn, .slice sad 0 sc] 102)) (fun _ _ _ => 0)
      case atStart => exact ⟨rfl, rfl, rfl⟩
      case round =>
        obtain ⟨rfl, rfl, rfl⟩ := hrel
        go_wp2_with fail
        go_ret
        exact ⟨_, rfl, HS.out.below ((Below.refl _ _).alloc (Nat.le_refl _) _), (Below.refl _ _).alloc (Nat.le_refl _) _⟩
    · clear hv' hka
      go_enter Try.func65, Try.ntmps65
      go_wp2_with fail
      obtain ⟨w0, hw0⟩ : ∃ w0, w0 = w.alloc (.cells #[.int .i64 xk, .int .i64 xn, .slice sad KL sc] 102) := ⟨_, rfl⟩
      rw [← hw0]
      have hB0 : Below w.heap.size w w0 := by rw [hw0]; exact (Below.refl _ _).alloc (Nat.le_refl _) _
      have hb0 : w0.heap[w.heap.size]? = some (.cells #[.int .i64 xk, .int .i64 xn, .slice sad KL sc] 102) := by rw [hw0]; exact heap_alloc_new _ _
      have HB0 := hide hb0
      have hsz0 : w.heap.size < w0.heap.size := (Array.getElem?_eq_some_iff.1 hb0).1
      have HT0 := hide (HT.out.below hB0)
      have HS0 := hide (HS.out.below hB0)
      clear hw0 hb0
      go_loopw [2, 27] (fun o2 i w' => ∃ a b : F, k = a.app b ∧ i = .int .i64 (a.len : Int) ∧ IS w' o2 (fre xk d 0 a o) ∧ Below w0.heap.size w0 w') (fun _ i _ => KL - (intOf i).toNat)
      case atStart => exact ⟨.nil, k, rfl, rfl, HS0.out, Below.refl _ _⟩
      case round =>
        obtain ⟨a, b, hk, rfl, hIS, hBr⟩ := hrel
        have hBw : Below w.heap.size w wr := hB0.trans (hBr.mono hB0.size)
        have HIS := hide hIS
        obtain ⟨rad, rc, hform⟩ := hIS.form
        subst hform
        clear hIS
        cases b with
        | nil =>
          rw [F.app_nil] at hk
          subst hk
          have hKL := HKL.out
          rw [← hKL]
          clear hKL
          go_wp2_with fail
          go_ret
          exact ⟨_, rfl, HIS.out, hBw⟩
        | cons y ky b =>
          have hkl2 : KL = a.len + (b.len + 1) := by rw [HKL.out, hk, F.app_len]; rfl
          have hlt' : (a.len : Int) < (KL : Int) := by omega
          have hfk : k.flat.length = a.flat.length + (1 + ky.flat.length + b.flat.length) := by rw [hk, F.app_flat]; simp [F.flat]; omega
          have hK := HT0.out
          have hI := IH.out
          have hKO := HKO.out
          rw [hk] at hI hKO
          obtain ⟨g, cap, sy, he, hP, hg, hTy, p0, p1, p2⟩ := KidT.kid (a := a) (k := ky) (r := b) (x := y) (s := .slice sad KL sc) (by rw [← hk]; exact hK)
          simp only [Value.slice.injEq] at he
          obtain ⟨rfl, -, rfl⟩ := he
          have q0 := (hBr.cell (p := ⟨g, a.len * 3, none⟩) hg).trans p0
          have q1 := (hBr.cell (p := ⟨g, a.len * 3 + 1, none⟩) hg).trans p1
          have q2 := (hBr.cell (p := ⟨g, a.len * 3 + 2, none⟩) hg).trans p2
          obtain ⟨g1, l1, o1, -⟩ := ok_cons ((F.app_ok _ _).1 hKO).2
          have hyn := good_n g1
          have hbl := binds_le xk a.len
          have hfl := fre_len a xk d 0 o
          obtain ⟨fo, hfo⟩ : ∃ fo, fo = fre xk d 0 a o := ⟨_, rfl⟩
          rw [← hfo] at HIS hfl ⊢
          have HFo := hide hfo
          have HC := hide (fun (w' : World) (hw' : Below w0.heap.size w0 w') (hs' : IS w' (.slice rad fo.length rc) fo) => F.all_at hI y sy (.slice rad fo.length rc) (d + binds xk a.len) fo P w' hyn.1 hyn.2 l1 o1 (by omega) (by omega) (hTy.below hw') hs')
          obtain ⟨yad, yc, rfl⟩ := hTy.form
          have HSn := hide (hk.trans (F.app_snoc a ky b y))
          have HDl : Hid ((a.app (.cons y ky .nil)).len = a.len + 1) := hide (by rw [F.app_len]; rfl)
          have HFr : Hid (fre xk d 0 (a.app (.cons y ky .nil)) o = fr1 (d + binds xk a.len) y ky fo) := hide (by rw [fre_app, HFo.out, Nat.zero_add]; rfl)
          have HKl2 := hide hkl2
          have HBi := hide (l3Binds_any xk a.len)
          clear p0 p1 p2 hTy hK hI hk hkl2 hfk hfl hfo hKO g1 l1 o1 hyn
          obtain ⟨al, hal⟩ : ∃ al, al = a.len := ⟨_, rfl⟩
          obtain ⟨kn, hkn⟩ : ∃ kn, kn = ky.len := ⟨_, rfl⟩
          obtain ⟨bi, hbi⟩ : ∃ bi, bi = binds xk a.len := ⟨_, rfl⟩
          obtain ⟨FL, hFL⟩ : ∃ FL, FL = fo.length := ⟨_, rfl⟩
          rw [← hbi] at HC HBi HFr hbl
          rw [← hal] at hlt' q0 q1 q2 HDl HKl2 HBi ⊢
          rw [← hkn] at HC q2
          rw [← hFL] at HC HIS ⊢
          clear hal hkn hbi hFL
          have c0 : wr.cell? ⟨w.heap.size, 0, none⟩ = some (.int .i64 xk) := (hBr.cell (p := ⟨w.heap.size, 0, none⟩) hsz0).trans ((cell_of_blk HB0.out 0).trans rfl)
          have hw : IntKind.i64.wrap ((d : Int) + (bi : Int)) = ((d + bi : Nat) : Int) := by rw [IntWalk.i64_in _ ⟨by omega, by omega⟩]; omega
          go_wp2_with fail
          obtain ⟨w3, hw3⟩ : ∃ w3, w3 = wr.alloc (.cells #[.int .i64 y.k, .int .i64 y.n, .slice yad kn yc] 102) := ⟨_, rfl⟩
          rw [← hw3]
          have hb3 : w3.heap[wr.heap.size]? = some (.cells #[.int .i64 y.k, .int .i64 y.n, .slice yad kn yc] 102) := by rw [hw3]; exact heap_alloc_new _ _
          have hBr3 : Below wr.heap.size wr w3 := by rw [hw3]; exact (Below.refl _ _).alloc (Nat.le_refl _) _
          have hsz3 : wr.heap.size < w3.heap.size := (Array.getElem?_eq_some_iff.1 hb3).1
          have hszr : w0.heap.size ≤ wr.heap.size := hBr.size
          have e0 : w3.cell? ⟨wr.heap.size, 0, none⟩ = some (.int .i64 y.k) := (cell_of_blk hb3 0).trans rfl
          have e1 : w3.cell? ⟨wr.heap.size, 1, none⟩ = some (.int .i64 y.n) := (cell_of_blk hb3 1).trans rfl
          have e2 : w3.cell? ⟨wr.heap.size, 2, none⟩ = some (.slice yad kn yc) := (cell_of_blk hb3 2).trans rfl
          have e3 : w3.cell? ⟨w.heap.size, 0, none⟩ = some (.int .i64 xk) := (hBr3.cell (p := ⟨w.heap.size, 0, none⟩) (by show w.heap.size < _; omega)).trans c0
          have hB3 : Below w0.heap.size w0 w3.drew := belowDrew (hBr.trans (hBr3.mono hBr.size))
          have HI3 : Hid (IS w3.drew (.slice rad FL rc) fo) := hide (HIS.out.below (belowDrew hBr3))
          have HB3 := hide hB3
          clear hw3 hb3 hBr3 q0 q1 q2 c0 hB3
          go_region_held3 (fun w' => w'.cell? ⟨wr.heap.size, 0, none⟩ = some (.int .i64 y.k) ∧ w'.cell? ⟨wr.heap.size, 1, none⟩ = some (.int .i64 y.n) ∧ w'.cell? ⟨wr.heap.size, 2, none⟩ = some (.slice yad kn yc) ∧ w'.cell? ⟨w.heap.size, 0, none⟩ = some (.int .i64 xk)) (go_keep)
            (first
              | (go_at_call 95; refine (HBi.out _).mono ?_; rintro e w' ⟨rfl, rfl⟩)
              | (go_at_call 65; refine Calls.mono (HC.out _ HB3.out HI3.out) ?_; rintro e w5 ⟨s5, rfl, hs5, hb5⟩; obtain ⟨pad, pc, rfl⟩ := hs5.form; have HS5 := hide hs5; have HB5 := hide hb5; clear hs5 hb5; have f0 := (HB5.out.cell (p := ⟨wr.heap.size, 0, none⟩) hsz3).trans e0; have f1 := (HB5.out.cell (p := ⟨wr.heap.size, 1, none⟩) hsz3).trans e1; have f2 := (HB5.out.cell (p := ⟨wr.heap.size, 2, none⟩) hsz3).trans e2; have f3 := (HB5.out.cell (p := ⟨w.heap.size, 0, none⟩) (show w.heap.size < w3.heap.size by omega)).trans e3))
          have hB5 : Below w0.heap.size w0 w5 := HB3.out.trans (HB5.out.mono HB3.out.size)
          clear f0 f1 f2 f3 e0 e1 e2 e3
          have hkl2 := HKl2.out
          go_wp2_with fail
          exact ⟨⟨a.app (.cons y ky .nil), b, HSn.out, by rw [HDl.out]; go_num, by rw [HFr.out]; exact HS5.out, hB5⟩, by simp [intOf]; omega⟩

/-- The variables that are bound nowhere. -/
def freT : F → List Int
  | .nil => []
  | .cons x k _ => fr1 0 x k []
end Go.Proofs.Ytdajalchdbgooaa.W

/-
  The variables that are bound nowhere, by the program: contracts of FreeIn's closure and of FreeIn. Conditions: at most 1048576 cells.
-/
namespace Go.Proofs.Ytdajalchdbgooaa.W
open Go.ChangeShapes Go.WideShapes Go.ChangeAt Go.RowKit
set_option linter.unusedVariables false

theorem iOwn_lower {w : World} {base base' n size : Nat} {e : TypeId} {v : Value} {xs : List Value} (h : w.ownsRow base e size v n xs) (hb : base' ≤ base) : w.ownsRow base' e size v n xs := by
  refine ⟨h.1, ?_⟩
  rcases h.2 with h1 | ⟨g, cap, cur, hv, hg, rest⟩
  · exact .inl h1
  · exact .inr ⟨g, cap, cur, hv, by omega, rest⟩

/-- A hundred marks. -/
def bitO (s : List Bool) : Obj := .cells (s.map Value.bool).toArray 160 (0, 0)
def bitS (s : List Bool) (n : Int) (d : Nat) : List Bool := if (d : Int) ≤ n then s.set (n - (d : Int)).toNat true else s
def sameV (_ : List Bool) (n : Int) (_ : Nat) : F := .cons ⟨1, n⟩ .nil .nil

theorem fnFree : ∀ args w, (callFunc 97 args).run Try.prog w = .ok (.enter 97 args) w := fun args w => by kernel_rfl

set_option maxRecDepth 20000 in
set_option maxHeartbeats 1000000 in
theorem chgFree (cb : Nat) : ChgOK (σ := {s : List Bool // s.length = 100}) 97 #[.pointer (some ⟨cb, 0, none⟩)] cb (fun s w => w.heap[cb]? = some (bitO s.1)) (fun s n d => sameV s.1 n d) (fun s n d => ⟨bitS s.1 n d, by unfold bitS; split <;> simp [s.2]⟩) := by
  rintro ⟨s, hs⟩ n d w h0 h1 hd hcb hinv
  have hb : w.heap[cb]? = some (bitO s) := hinv.get
  simp only
  show Calls Try.prog 97 #[.agg #[.int .i64 n], .int .i64 (d : Int), .pointer (some ⟨cb, 0, none⟩)] w _
  have HB := hide hb
  clear hb hinv
  by_cases hdn : (d : Int) ≤ n
  · obtain ⟨j, hj⟩ := Int.eq_ofNat_of_zero_le (show 0 ≤ n - (d : Int) by omega)
    have hj100 : j < 100 := by omega
    have hj100' : (j : Int) < 100 := by omega
    have hjs : j < s.length := by omega
    have hcell : w.cell? ⟨cb, j, none⟩ = some (.bool (s[j]'hjs)) := by rw [cell_of_blk HB.out]; simp [hjs]
    have hfz : w.frozen? ⟨cb, j, none⟩ = false := unfrozen_of_blk HB.out j
    have hset : bitS s n d = s.set j true := by unfold bitS; rw [if_pos hdn, hj]; rfl
    go_enter Try.func97, Try.ntmps97
    have HSet := hide hset
    have HJ := hide hj
    clear hset
    go_wp2_with fail
    go_ret
    refine ⟨rfl, Inv.blk ?_, ((Oth.refl cb w).setCell j (.bool true)).trans (Oth.alloc1 _ _ _)⟩
    show _ = some (bitO (bitS s n d))
    rw [HSet.out, heap_alloc_old _ _ (by simp [World.setCell]; exact hcb), blk_setCell HB.out]
    simp [bitO]
  · have hset : bitS s n d = s := by unfold bitS; rw [if_neg hdn]
    have HSet := hide hset
    clear hset
    go_enter Try.func97, Try.ntmps97
    go_wp2_with fail
    go_ret
    refine ⟨rfl, Inv.blk ?_, Oth.alloc1 _ _ _⟩
    show _ = some (bitO (bitS s n d))
    rw [HSet.out, heap_alloc_old _ _ hcb]
    exact HB.out

/-- The places below j that are marked. -/
def mkd (s : List Bool) (j : Nat) : List Int := ((List.range j).filter fun i => s.getD i false).map Int.ofNat
def marked (s : List Bool) : List Int := mkd s 100
theorem mkd_succ (s : List Bool) (j : Nat) : mkd s (j + 1) = if s.getD j false = true then mkd s j ++ [(j : Int)] else mkd s j := by
  unfold mkd
  rw [List.range_succ, List.filter_append, List.map_append]
  split
  · rename_i h; rw [List.filter_cons, if_pos h]; rfl
  · rename_i h; rw [List.filter_cons, if_neg h]; simp
theorem mkd_len (s : List Bool) (j : Nat) : (mkd s j).length ≤ j := by
  unfold mkd
  rw [List.length_map]
  exact Nat.le_trans (List.length_filter_le _ _) (by simp)

theorem idx_bool (B : List Bool) (hB : B.length = 100) (j : Nat) (hj : j < 100) (w : World) : (Instr.index 160 (.agg (B.map Value.bool).toArray) (.int .i64 (j : Int))).run Try.prog w = .ok (.bool (B.getD j false)) w := by
  obtain ⟨i, hi, e⟩ := Option.map_eq_some_iff.1 (show (Try.prog.info? 4).map (fun i => (i.zero, i.size, i.bytes)) = some (some (.bool false), 1, 1) by kernel_rfl)
  simp only [Prod.mk.injEq] at e
  have hjl : j < B.length := by omega
  simp [Instr.index, run_underlying Try.underlying160, sizeOf, typeInfo, hi, e.2.1, go_sem, hj, hjl]

/-- The marks of a term's variables (type 160). -/
def bits (x : Cc) (k : F) : List Bool := (w1 (σ := {s : List Bool // s.length = 100}) (fun s n d => sameV s.1 n d) (fun s n d => ⟨bitS s.1 n d, by unfold bitS; split <;> simp [s.2]⟩) 0 x k ⟨List.replicate 100 false, by simp⟩).2.1

set_option maxRecDepth 20000 in
set_option maxHeartbeats 1000000 in
theorem implFreeIn_some (ad : Option Addr) (c : Nat) (l : List Cc) (a : F) (w : World) (hl : l.length ≤ 1048576) (hc : l.length ≤ c) (h : CRow w ad l) (ht : treeT l = some a) (x : Cc) (k : F) (ha : a = .cons x k .nil) :
    Calls Try.prog 67 #[.slice ad l.length c] w fun e w' => ∃ s', e = .returned (.tuple #[s', .bool true]) ∧ w'.ownsRow w.heap.size 3 1 s' (marked (bits x k)).length ((marked (bits x k)).map (Value.int .i64)) ∧ Below w.heap.size w w' := by
  have HR := hide h
  have hg : goodT l = true := by unfold goodT; rw [ht]; rfl
  have HT := hide (treeT_flat ht)
  have HG := hide (implGoodT_any ad c l)
  rw [hg] at HG
  clear h ht hg
  go_enter Try.func67, Try.ntmps67
  go_wp2_with fail
  refine (HG.out w hl HR.out).mono ?_
  rintro e w1 ⟨rfl, hb1⟩
  go_wp2_with fail
  obtain ⟨t1, t2, t3, t4, t5⟩ := HT.out
  obtain ⟨w2, hw2⟩ : ∃ w2, w2 = w1.alloc (.cells Try.zeroCells160 160) := ⟨_, rfl⟩
  rw [← hw2]
  have hz : Try.zeroCells160 = ((List.replicate 100 false).map Value.bool).toArray := by kernel_rfl
  have hbk : w2.heap[w1.heap.size]? = some (bitO (List.replicate 100 false)) := by rw [hw2, hz]; exact heap_alloc_new _ _
  have hB12 : Below w1.heap.size w1 w2 := by rw [hw2]; exact (Below.refl _ _).alloc (Nat.le_refl _) _
  have hB2 : Below w.heap.size w w2 := hb1.trans (hB12.mono hb1.size)
  have hR2 := HR.out.below hB2
  have hpo := partOf_any a ad c w2 t2 t3 (by rw [← t1]; exact hl) (by rw [← t1]; exact hc) (by rw [← t1]; exact hR2)
  rw [← t1] at hpo
  have HPo := hide hpo
  have HBk := hide hbk
  have hsz1 := hb1.size
  have hcb : w1.heap.size < w2.heap.size := (Array.getElem?_eq_some_iff.1 hbk).1
  subst ha
  obtain ⟨g1, l1, o1, -⟩ := ok_cons t2
  have hkf : 0 + k.flat.length ≤ 1048576 := by rw [t1] at t4; simp [F.flat] at t4; omega
  have hwv := withVariables_any (σ := {s : List Bool // s.length = 100}) 97 #[.pointer (some ⟨w1.heap.size, 0, none⟩)] w1.heap.size (fun s w => w.heap[w1.heap.size]? = some (bitO s.1)) (fun s n d => sameV s.1 n d) (fun s n d => ⟨bitS s.1 n d, by unfold bitS; split <;> simp [s.2]⟩) fnFree (chgFree _) (fun s n d => rfl) k x ⟨List.replicate 100 false, by simp⟩ 0 g1 l1 o1 hkf
  have hpt : pvT (.cons x k .nil) = pv x.k x.n (pvs k) := rfl
  rw [← hpt] at hwv
  have hrl := wv_len (σ := {s : List Bool // s.length = 100}) (g := fun s n d => sameV s.1 n d) (st := fun s n d => ⟨bitS s.1 n d, by unfold bitS; split <;> simp [s.2]⟩) (fun s n d => rfl) (.cons x k .nil) 0 0 0 ⟨List.replicate 100 false, by simp⟩
  obtain ⟨RR, hRR⟩ : ∃ RR, RR = W.w1 (σ := {s : List Bool // s.length = 100}) (fun s n d => sameV s.1 n d) (fun s n d => ⟨bitS s.1 n d, by unfold bitS; split <;> simp [s.2]⟩) 0 x k ⟨List.replicate 100 false, by simp⟩ := ⟨_, rfl⟩
  have hbits : RR.2.1 = bits x k := by rw [hRR]; rfl
  unfold WVC at hwv
  rw [← hRR] at hwv
  have hrl' : RR.1.len = 1 := by rw [hRR]; exact hrl
  obtain ⟨T, u, hV⟩ := pvT_iface hrl'
  obtain ⟨T0, u0, hV0⟩ := pvT_iface (a := .cons x k .nil) rfl
  rw [hV, hV0, show ((0 : Nat) : Int) = 0 from rfl] at hwv
  rw [hV0] at HPo
  have HWV := hide hwv
  have HBits := hide hbits
  clear hw2 hz hbk hR2 hpo t1 t2 t3 t4 t5 HT HG g1 l1 o1 hkf hwv hpt hrl hRR hbits hrl' hV hV0
  refine Calls.mono HPo.out ?_
  rintro e w3 ⟨rfl, hb3⟩
  have HBk3 := hide ((hb3.block _ hcb).trans HBk.out)
  have hcb3 : w1.heap.size < w3.heap.size := Nat.lt_of_lt_of_le hcb hb3.size
  have hB3 : Below w.heap.size w w3 := hB2.trans (hb3.mono hB2.size)
  clear hb3 HBk HPo hB12
  go_wp2_with fail
  refine Calls.mono (HWV.out _ hcb3 (Inv.blk HBk3.out)) ?_
  rintro e w4 ⟨rfl, hi4, ho4⟩
  have hb4 : w4.heap[w1.heap.size]? = some (bitO (bits x k)) := by rw [← HBits.out]; exact hi4.get
  have hB4 : Below w.heap.size w w4 := hB3.trans (ho4.below (by have := hB3.size; omega) hsz1)
  have HB4 := hide hb4
  clear hi4 ho4 hb4 HBk3
  obtain ⟨i0, hi0, hz0, hz1, hz2⟩ := infoPartsT infoInt
  have Hi := hide hi0
  clear hi0
  obtain ⟨B, hB⟩ : ∃ B, B = bits x k := ⟨_, rfl⟩
  rw [← hB] at HB4
  have HBB := hide hB
  clear hB
  have hBl : B.length = 100 := by rw [HBB.out]; exact (W.w1 (σ := {s : List Bool // s.length = 100}) (fun s n d => sameV s.1 n d) (fun s n d => ⟨bitS s.1 n d, by unfold bitS; split <;> simp [s.2]⟩) 0 x k ⟨List.replicate 100 false, by simp⟩).2.2
  have HRg : Hid (w4.rangeAt w1.heap.size 0 (B.map Value.bool)) := hide (fun j v hj => by rw [cell_of_blk HB4.out, Nat.zero_add, ← hj]; simp)
  have HInf : Hid ((Try.prog.info? 160).map (·.size) = some (B.map Value.bool).length) := hide (by rw [List.length_map, hBl]; kernel_rfl)
  go_wp2_with fail
  refine wp_load_mid 160 _ rfl w1.heap.size 0 rfl (B.map Value.bool) _ HRg.out Try.underlying160 rfl HInf.out ?_
  go_wp2_with fail
  have hsz4 := hB4.size
  clear HRg HInf HB4
  go_loopw [5, 16] (fun o5 i w' => ∃ j : Nat, j ≤ 100 ∧ i = .int .i64 (j : Int) ∧ w'.ownsRow w4.heap.size 3 1 o5 (mkd B j).length ((mkd B j).map (Value.int .i64)) ∧ Below w4.heap.size w4 w') (fun _ i _ => 100 - (intOf i).toNat)
  case atStart => exact ⟨0, by omega, rfl, World.ownsRow_nil _ _ _ _, Below.refl _ _⟩
  case round =>
    obtain ⟨j, hj, rfl, hown, hBr⟩ := hrel
    obtain ⟨oad, oc, hform⟩ := iOwn_form hown
    subst hform
    have HO := hide hown
    clear hown
    have hml := mkd_len B j
    by_cases hlt : j < 100
    · have hlt' : (j : Int) < 100 := by omega
      have hidx := idx_bool B hBl j hlt
      have hms := mkd_succ B j
      cases hb : B.getD j false with
      | false =>
        rw [hb] at hidx hms
        rw [if_neg (by simp)] at hms
        have HMs := hide hms
        clear hb hms
        go_wp2_with fail
        exact ⟨⟨j + 1, by omega, by go_num, by rw [HMs.out]; exact HO.out, hBr⟩, by simp [intOf]; omega⟩
      | true =>
        rw [hb] at hidx hms
        rw [if_pos rfl] at hms
        have HMs := hide hms
        clear hb hms
        have hszr := hBr.size
        have T2 : Hid (∀ i u, [Value.int .i64 (j : Int)][i]? = some u → (wr.alloc (.cells #[.int .i64 (j : Int)] 3)).cell? ((⟨wr.heap.size, 0, none⟩ : Addr).add i) = some u) := hide (by
          intro i u hu
          rw [iAdd, Nat.zero_add, cell_of_blk (heap_alloc_new wr (.cells #[.int .i64 (j : Int)] 3)), ← hu]
          simp)
        have M2 : Hid ((mkd B j).length + 1 ≤ maxLen) := hide (by unfold maxLen; omega)
        obtain ⟨ml, hmle⟩ : ∃ ml, ml = (mkd B j).length := ⟨_, rfl⟩
        rw [← hmle] at HO M2 hml ⊢
        have HMl := hide hmle
        clear hmle
        go_wp2_with (at_builtin; refine wpList_append_own _ rfl _ _ 90 rfl w4.heap.size 3 i0 (.int .i64 0) 1 8 Try.underlying90 Hi.out hz0 hz1 hz2 rfl (by decide) _ _ _ rfl (HO.out.alloc _) ⟨wr.heap.size, 0, none⟩ 1 1 [.int .i64 (j : Int)] rfl rfl T2.out (iOne [(j : Int)]) M2.out (by omega) (by simp; omega) ?_)
        intro v2 w2' hown2 hgrow2 _
        obtain ⟨ad2, c2, rfl⟩ := iOwn_form hown2
        have hB2' : Below w4.heap.size w4 w2' := (hBr.alloc hBr.size _).grown hgrow2 (by simp; omega) (fun k hk => (HO.out.lt k hk).1)
        have HO2 := hide hown2
        clear hown2 hgrow2
        go_wp2_with fail
        refine ⟨⟨j + 1, by omega, by go_num, ?_, hB2'⟩, by simp [intOf]; omega⟩
        rw [HMs.out, List.length_append, List.map_append, ← HMl.out]
        exact HO2.out
    · obtain rfl : j = 100 := by omega
      go_wp2_with fail
      have hBw : Below w.heap.size w wr := hB4.trans (hBr.mono hB4.size)
      refine bodyPost_ret (v := .tuple #[.slice oad (mkd B 100).length oc, .bool true]) (by simp [results, Try.results67, go_sem]) rfl ⟨_, rfl, ?_, hBw⟩
      rw [← HBB.out]
      exact iOwn_lower HO.out hB4.size

set_option maxHeartbeats 1000000 in
theorem implFreeIn_none (ad : Option Addr) (c : Nat) (l : List Cc) (w : World) (hl : l.length ≤ 1048576) (h : CRow w ad l) (ht : treeT l = none) :
    Calls Try.prog 67 #[.slice ad l.length c] w fun e w' => e = .returned (.tuple #[.slice none 0 0, .bool false]) ∧ Below w.heap.size w w' := by
  have hg : goodT l = false := by unfold goodT; rw [ht]; rfl
  have HR := hide h
  have HG := hide (implGoodT_any ad c l w hl h)
  rw [hg] at HG
  clear h ht hg
  go_enter Try.func67, Try.ntmps67
  go_wp2_with fail
  refine HG.out.mono ?_
  rintro e w1 ⟨rfl, hb1⟩
  go_wp2_with fail
  exact bodyPost_ret (v := .tuple #[.slice none 0 0, .bool false]) (by simp [results, Try.results67, go_sem]) rfl ⟨rfl, hb1⟩
end Go.Proofs.Ytdajalchdbgooaa.W

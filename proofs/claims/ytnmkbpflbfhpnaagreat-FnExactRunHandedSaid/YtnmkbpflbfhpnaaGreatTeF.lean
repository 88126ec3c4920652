/-
  The variables that are bound nowhere, by the specification: contracts of l1Put, l3Binds, l3Free and FreeIn. Conditions: at most 1048576 cells.
-/
import Derived.Test.YtnmkbpflbfhpnaaGreatJ03
import Derived.Laws.AppendOwnNone
namespace Go.Proofs.YtnmkbpflbfhpnaaGreat.W
open Go.ChangeShapes Go.WideShapes Go.ChangeAt Go.RowKit
set_option linter.unusedVariables false

/-- A slice of numbers that fills its block from the front, or none. -/
def IS (w : World) (s : Value) (l : List Int) : Prop :=
  (s = .slice none 0 0 ∧ l = []) ∨ ∃ g c, s = .slice (some ⟨g, 0, none⟩) l.length c ∧ l.length ≤ c ∧ g < w.heap.size ∧ ∀ i (h : i < l.length), w.cell? ⟨g, i, none⟩ = some (.int .i64 l[i])
theorem IS.below {w w' : World} {s : Value} {l : List Int} (h : IS w s l) (hb : Below w.heap.size w w') : IS w' s l := by
  rcases h with h | ⟨g, c, h1, h2, h3, h4⟩
  · exact .inl h
  · exact .inr ⟨g, c, h1, h2, Nat.lt_of_lt_of_le h3 hb.size, fun i hi => (hb.cell (p := ⟨g, i, none⟩) h3).trans (h4 i hi)⟩
theorem IS.form {w : World} {s : Value} {l : List Int} (h : IS w s l) : ∃ ad c, s = .slice ad l.length c := by
  rcases h with ⟨h1, h2⟩ | ⟨g, c, h1, _⟩
  · exact ⟨none, 0, by rw [h1, h2]; rfl⟩
  · exact ⟨_, _, h1⟩

/-- Where a number goes in a rising list. -/
def putAt (l : List Int) (n : Int) : Nat := (l.takeWhile (· < n)).length
/-- A number put into a rising list. -/
def put (l : List Int) (n : Int) : List Int := if l[putAt l n]? = some n then l else l.take (putAt l n) ++ n :: l.drop (putAt l n)
theorem putAt_le (l : List Int) (n : Int) : putAt l n ≤ l.length := (List.takeWhile_sublist _).length_le
theorem putAt_lt (l : List Int) (n : Int) (i : Nat) (h : i < putAt l n) : l[i]'(Nat.lt_of_lt_of_le h (putAt_le l n)) < n := by
  have h1 : (l.takeWhile (· < n))[i]'h = l[i]'(Nat.lt_of_lt_of_le h (putAt_le l n)) := (List.takeWhile_prefix (p := (· < n)) (l := l)).getElem h
  have h2 : ∀ (l : List Int) x, x ∈ l.takeWhile (· < n) → x < n := by
    intro l
    induction l with
    | nil => intro x hx; cases hx
    | cons y l ih =>
      intro x hx
      by_cases hy : y < n
      · simp only [List.takeWhile_cons, hy, decide_true, if_true, List.mem_cons] at hx
        rcases hx with rfl | hx
        · exact hy
        · exact ih x hx
      · simp [hy] at hx
  have h3 := h2 l _ (List.getElem_mem (l := l.takeWhile (· < n)) h)
  rw [h1] at h3
  simpa using h3
theorem putAt_ge (l : List Int) (n : Int) (h : putAt l n < l.length) : ¬ l[putAt l n] < n := by
  unfold putAt at h ⊢
  induction l with
  | nil => simp at h
  | cons x l ih =>
    by_cases hx : x < n
    · simp only [List.takeWhile_cons, hx, decide_true, if_true, List.length_cons, List.getElem_cons_succ] at h ⊢
      exact ih (by omega)
    · simp [hx]
theorem putAt_is {l : List Int} {n : Int} {k : Nat} (hk : k ≤ l.length) (h1 : ∀ i (h : i < l.length), i < k → l[i] < n) (h2 : ∀ h : k < l.length, ¬ l[k] < n) : putAt l n = k := by
  rcases Nat.lt_trichotomy (putAt l n) k with h | h | h
  · exact absurd (h1 _ (by omega) h) (putAt_ge l n (by omega))
  · exact h
  · exact absurd (putAt_lt l n k h) (h2 (by have := putAt_le l n; omega))

theorem iOwn_form {w : World} {base n size : Nat} {e : TypeId} {v : Value} {xs : List Value} (h : w.ownsRow base e size v n xs) : ∃ ad c, v = .slice ad n c := by
  rcases h.2 with ⟨h1, h2⟩ | ⟨g, cap, cur, hv, _⟩
  · exact ⟨none, 0, by rw [h1, h2]⟩
  · exact ⟨_, _, hv⟩
theorem iAdd (g o j : Nat) : (⟨g, o, none⟩ : Addr).add j = ⟨g, o + j, none⟩ := by unfold Addr.add; split <;> simp_all
theorem iOne (l : List Int) : ∀ u ∈ l.map (Value.int .i64), u.oneCell' = true := by
  intro u hu
  obtain ⟨n, -, rfl⟩ := List.mem_map.1 hu
  rfl
theorem iOneT (l : List Int) (k : Nat) : ∀ u ∈ (l.map (Value.int .i64)).take k, u.oneCell' = true := fun u hu => iOne l u (List.mem_of_mem_take hu)
theorem iOneD (l : List Int) (k : Nat) : ∀ u ∈ (l.map (Value.int .i64)).drop k, u.oneCell' = true := fun u hu => iOne l u (List.mem_of_mem_drop hu)
theorem IS.ofOwn {w : World} {base : Nat} {e : TypeId} {v : Value} {l : List Int} (h : w.ownsRow base e 1 v l.length (l.map (Value.int .i64))) : IS w v l := by
  rcases h.2 with ⟨h1, h2⟩ | ⟨g, cap, cur, hv, hg, hh, h1, h2, h3, h4⟩
  · exact .inl ⟨h1, List.eq_nil_of_length_eq_zero h2⟩
  · refine .inr ⟨g, cap, hv, h1, (Array.getElem?_eq_some_iff.1 hh).1, fun i hi => ?_⟩
    have h5 : (cur.toList.take (l.length * 1))[i]? = some (.int .i64 l[i]) := by rw [h4]; simp [hi]
    rw [cell_of_blk hh, List.getElem?_take_of_lt (by omega)] at *
    simpa using h5

theorem infoInt : (Tryz.prog.info? 3).map (fun i => (i.zero, i.size, i.bytes)) = some (some (.int .i64 0), 1, 8) := by kernel_rfl

set_option maxRecDepth 20000 in
set_option maxHeartbeats 4000000 in
theorem l1Put_some (l : List Int) (n : Int) (g c : Nat) (w : World) (hl : l.length ≤ 1048576) (hc : l.length ≤ c) (hg : g < w.heap.size) (h : ∀ i (h : i < l.length), w.cell? ⟨g, i, none⟩ = some (.int .i64 l[i])) :
    Calls Tryz.prog 65 #[.slice (some ⟨g, 0, none⟩) l.length c, .int .i64 n] w fun e w' => ∃ s', e = .returned s' ∧ IS w' s' (put l n) ∧ Below w.heap.size w w' := by
  have HC := hide h
  clear h
  obtain ⟨i0, hi0, hz0, hz1, hz2⟩ := infoPartsT infoInt
  have Hi := hide hi0
  clear hi0
  have hlc : (l.length : Int) ≤ (c : Int) := by omega
  go_enter Tryz.func65, Tryz.ntmps65
  go_wp2_with fail
  go_loopw [5] (fun k w' => ∃ j : Nat, j ≤ l.length ∧ k = .int .i64 j ∧ (∀ i (h : i < l.length), i < j → l[i] < n) ∧ w' = w) (fun k _ => l.length - (intOf k).toNat)
  case atStart => exact ⟨0, by omega, rfl, by intros; omega, rfl⟩
  case round =>
    obtain ⟨j, hj, rfl, hall, rfl⟩ := hrel
    have HA := hide hall
    clear hall
    by_cases hlt : j < l.length
    · have hlt' : (j : Int) < (l.length : Int) := by omega
      have hcj := HC.out j hlt
      obtain ⟨x, hx⟩ : ∃ x, x = l[j] := ⟨_, rfl⟩
      rw [← hx] at hcj
      have HX := hide hx
      clear hx
      by_cases hxn : x < n
      · go_wp2_with fail
        refine ⟨⟨j + 1, by omega, by go_num, ?_, trivial⟩, by simp [intOf]; omega⟩
        intro i hi hij
        by_cases e : i = j
        · subst e; rw [← HX.out]; exact hxn
        · exact HA.out i hi (by omega)
      · have hp : putAt l n = j := putAt_is hj HA.out (fun h => by rw [← HX.out]; exact hxn)
        by_cases hxe : x = n
        · have hput : put l n = l := by unfold put; rw [hp, if_pos (by rw [List.getElem?_eq_getElem hlt, ← HX.out, hxe])]
          have HPut := hide hput
          clear hput hp
          go_wp2_with fail
          go_ret
          exact ⟨_, rfl, by rw [HPut.out]; exact .inr ⟨g, c, rfl, hc, hg, HC.out⟩, Below.refl _ _⟩
        · have hput : put l n = l.take j ++ n :: l.drop j := by
            unfold put; rw [hp, if_neg (by rw [List.getElem?_eq_getElem hlt, ← HX.out]; simpa using hxe)]
          have HPut := hide hput
          clear hput hp
          have hxe' : (x == n) = false := by simpa using hxe
          have hjl : (j : Int) ≤ (l.length : Int) := by omega
          have hjc : (j : Int) ≤ (c : Int) := by omega
          have hj0 : (0 : Int) ≤ (j : Int) := by omega
          have hcj0 : ¬ c - j = 0 := by omega
          have t0 : ((l.map (Value.int .i64)).take j).length = j * 1 := by simp; omega
          have t1 : ∀ i u, ((l.map (Value.int .i64)).take j)[i]? = some u → wr.cell? ((⟨g, 0, none⟩ : Addr).add i) = some u := by
            intro i u hu
            rw [List.getElem?_take] at hu
            split at hu
            · rw [List.getElem?_map] at hu
              obtain ⟨y, hy, rfl⟩ := Option.map_eq_some_iff.1 hu
              obtain ⟨hi, rfl⟩ := List.getElem?_eq_some_iff.1 hy
              rw [iAdd, Nat.zero_add]; exact HC.out i hi
            · cases hu
          have T0 := hide t0
          have T1 := hide t1
          clear t0 t1
          have m1 : 0 + j ≤ maxLen := by unfold maxLen; omega
          have m2 : j + 1 ≤ maxLen := by unfold maxLen; omega
          have m3 : j + 1 + (l.length - j) ≤ maxLen := by unfold maxLen; omega
          have M1 := hide m1
          have M2 := hide m2
          have M3 := hide m3
          clear m1 m2 m3
          go_wp2_with (at_builtin; refine wpList_append_own _ rfl _ _ 42 rfl wr.heap.size 3 i0 (.int .i64 0) 1 8 Tryz.underlying42 Hi.out hz0 hz1 hz2 rfl (by decide) _ _ _ rfl (World.ownsRow_nil _ _ _ _) ⟨g, 0, none⟩ j c ((l.map (Value.int .i64)).take j) rfl T0.out T1.out (iOneT _ _) M1.out (by omega) (Nat.le_refl _) ?_)
          intro v1 w1 hown1 hgrow1 _
          obtain ⟨ad1, c1, rfl⟩ := iOwn_form hown1
          have hB1 : Below wr.heap.size wr w1 := (Below.refl _ _).grown hgrow1 (Nat.le_refl _) (fun k hk => by cases hk)
          have hsz1 := hB1.size
          have HO1 := hide hown1
          clear hown1 hgrow1
          have t2 : ∀ i u, [Value.int .i64 n][i]? = some u → (w1.alloc (.cells #[.int .i64 n] 3)).cell? ((⟨w1.heap.size, 0, none⟩ : Addr).add i) = some u := by
            intro i u hu
            rw [iAdd, Nat.zero_add, cell_of_blk (heap_alloc_new w1 (.cells #[.int .i64 n] 3)), ← hu]
            simp
          have T2 := hide t2
          clear t2
          go_wp2_with (at_builtin; refine wpList_append_own _ rfl _ _ 42 rfl wr.heap.size 3 i0 (.int .i64 0) 1 8 Tryz.underlying42 Hi.out hz0 hz1 hz2 rfl (by decide) _ _ _ rfl (HO1.out.alloc _) ⟨w1.heap.size, 0, none⟩ 1 1 [.int .i64 n] rfl rfl T2.out (iOne [n]) M2.out (by omega) (by simp; omega) ?_)
          intro v2 w2 hown2 hgrow2 _
          obtain ⟨ad2, c2, rfl⟩ := iOwn_form hown2
          have hB2 : Below wr.heap.size wr w2 := (hB1.alloc hB1.size _).grown hgrow2 (by simp; omega) (fun k hk => (HO1.out.lt k hk).1)
          have hsz2 := hB2.size
          have HO2 := hide hown2
          clear hown2 hgrow2 HO1 hB1 hsz1
          have t3 : ∀ i u, ((l.map (Value.int .i64)).drop j)[i]? = some u → w2.cell? ((⟨g, j, none⟩ : Addr).add i) = some u := by
            intro i u hu
            rw [List.getElem?_drop, List.getElem?_map] at hu
            obtain ⟨y, hy, rfl⟩ := Option.map_eq_some_iff.1 hu
            obtain ⟨hi, rfl⟩ := List.getElem?_eq_some_iff.1 hy
            rw [iAdd, hB2.cell hg]; exact HC.out (j + i) hi
          have T3 := hide t3
          clear t3
          go_wp2_with (at_builtin; refine wpList_append_own _ rfl _ _ 42 rfl wr.heap.size 3 i0 (.int .i64 0) 1 8 Tryz.underlying42 Hi.out hz0 hz1 hz2 rfl (by decide) _ _ _ rfl HO2.out ⟨g, j, none⟩ (l.length - j) (c - j) ((l.map (Value.int .i64)).drop j) rfl (by simp) T3.out (iOneD _ _) M3.out (by omega) (by omega) ?_)
          intro v3 w3 hown3 hgrow3 _
          obtain ⟨ad3, c3, rfl⟩ := iOwn_form hown3
          have hB3 : Below wr.heap.size wr w3 := hB2.grown hgrow3 (by omega) (fun k hk => (HO2.out.lt k hk).1)
          have HO3 := hide hown3
          clear hown3 hgrow3
          go_wp2_with fail
          go_ret
          refine ⟨_, rfl, ?_, hB3⟩
          rw [HPut.out]
          refine IS.ofOwn (base := wr.heap.size) (e := 3) ?_
          have h3 := HO3.out
          have e1 : (l.take j ++ n :: l.drop j).length = j + 1 + (l.length - j) := by simp; omega
          have e2 : (l.take j ++ n :: l.drop j).map (Value.int .i64) = (l.map (Value.int .i64)).take j ++ [.int .i64 n] ++ (l.map (Value.int .i64)).drop j := by simp [List.map_take, List.map_drop]
          rw [e1, e2]
          simpa using h3
    · have hje : j = l.length := by omega
      have hp : putAt l n = j := putAt_is hj HA.out (fun h => absurd h (by omega))
      have hput : put l n = l.take j ++ n :: l.drop j := by
        unfold put; rw [hp, if_neg (by rw [List.getElem?_eq_none (by omega)]; simp)]
      have HPut := hide hput
      clear hput hp
      have hnlt : ¬ (j : Int) < (l.length : Int) := by omega
      have hjl : (j : Int) ≤ (l.length : Int) := by omega
      have hjc : (j : Int) ≤ (c : Int) := by omega
      have hj0 : (0 : Int) ≤ (j : Int) := by omega
      have HJ := hide hje
      clear hje
      by_cases hcj : c = j
      · subst hcj
        have hjl0 : l.length - c = 0 := by omega
        have t0 : ((l.map (Value.int .i64)).take c).length = c * 1 := by simp; omega
        have t1 : ∀ i u, ((l.map (Value.int .i64)).take c)[i]? = some u → wr.cell? ((⟨g, 0, none⟩ : Addr).add i) = some u := by
          intro i u hu
          rw [List.getElem?_take] at hu
          split at hu
          · rw [List.getElem?_map] at hu
            obtain ⟨y, hy, rfl⟩ := Option.map_eq_some_iff.1 hu
            obtain ⟨hi, rfl⟩ := List.getElem?_eq_some_iff.1 hy
            rw [iAdd, Nat.zero_add]; exact HC.out i hi
          · cases hu
        have T0 := hide t0
        have T1 := hide t1
        clear t0 t1
        have m1 : 0 + c ≤ maxLen := by unfold maxLen; omega
        have m2 : c + 1 ≤ maxLen := by unfold maxLen; omega
        have m3 : c + 1 + (l.length - c) ≤ maxLen := by unfold maxLen; omega
        have M1 := hide m1
        have M2 := hide m2
        have M3 := hide m3
        clear m1 m2 m3
        go_wp2_with (at_builtin; refine wpList_append_own _ rfl _ _ 42 rfl wr.heap.size 3 i0 (.int .i64 0) 1 8 Tryz.underlying42 Hi.out hz0 hz1 hz2 rfl (by decide) _ _ _ rfl (World.ownsRow_nil _ _ _ _) ⟨g, 0, none⟩ c c ((l.map (Value.int .i64)).take c) rfl T0.out T1.out (iOneT _ _) M1.out (by omega) (Nat.le_refl _) ?_)
        intro v1 w1 hown1 hgrow1 _
        obtain ⟨ad1, c1, rfl⟩ := iOwn_form hown1
        have hB1 : Below wr.heap.size wr w1 := (Below.refl _ _).grown hgrow1 (Nat.le_refl _) (fun k hk => by cases hk)
        have hsz1 := hB1.size
        have HO1 := hide hown1
        clear hown1 hgrow1
        have t2 : ∀ i u, [Value.int .i64 n][i]? = some u → (w1.alloc (.cells #[.int .i64 n] 3)).cell? ((⟨w1.heap.size, 0, none⟩ : Addr).add i) = some u := by
          intro i u hu
          rw [iAdd, Nat.zero_add, cell_of_blk (heap_alloc_new w1 (.cells #[.int .i64 n] 3)), ← hu]
          simp
        have T2 := hide t2
        clear t2
        go_wp2_with (at_builtin; refine wpList_append_own _ rfl _ _ 42 rfl wr.heap.size 3 i0 (.int .i64 0) 1 8 Tryz.underlying42 Hi.out hz0 hz1 hz2 rfl (by decide) _ _ _ rfl (HO1.out.alloc _) ⟨w1.heap.size, 0, none⟩ 1 1 [.int .i64 n] rfl rfl T2.out (iOne [n]) M2.out (by omega) (by simp; omega) ?_)
        intro v2 w2 hown2 hgrow2 _
        obtain ⟨ad2, c2, rfl⟩ := iOwn_form hown2
        have hB2 : Below wr.heap.size wr w2 := (hB1.alloc hB1.size _).grown hgrow2 (by simp; omega) (fun k hk => (HO1.out.lt k hk).1)
        have hsz2 := hB2.size
        have HO2 := hide hown2
        clear hown2 hgrow2 HO1 hB1 hsz1
        have M4 : Hid (c + 1 + 0 ≤ maxLen) := hide (by unfold maxLen; omega)
        go_wp2_with (at_builtin; refine wpList_append_own _ rfl _ _ 42 rfl wr.heap.size 3 i0 (.int .i64 0) 1 8 Tryz.underlying42 Hi.out hz0 hz1 hz2 rfl (by decide) _ _ _ rfl HO2.out ⟨g, 0, none⟩ 0 0 [] rfl rfl (by intro i u hu; cases hu) (by intro u hu; cases hu) M4.out (by omega) (by omega) ?_)
        intro v3 w3 hown3 hgrow3 _
        obtain ⟨ad3, c3, rfl⟩ := iOwn_form hown3
        have hB3 : Below wr.heap.size wr w3 := hB2.grown hgrow3 (by omega) (fun k hk => (HO2.out.lt k hk).1)
        have HO3 := hide hown3
        clear hown3 hgrow3
        go_wp2_with fail
        go_ret
        refine ⟨_, rfl, ?_, hB3⟩
        rw [HPut.out]
        refine IS.ofOwn (base := wr.heap.size) (e := 3) ?_
        have h3 := HO3.out
        have hlc2 : l.length = c := by omega
        have e0 : l.drop c = [] := List.drop_eq_nil_of_le (by omega)
        have e1 : (l.take c ++ n :: l.drop c).length = c + 1 := by rw [e0]; simp; omega
        have e2 : (l.take c ++ n :: l.drop c).map (Value.int .i64) = (l.map (Value.int .i64)).take c ++ [.int .i64 n] := by rw [e0]; simp [List.map_take]
        rw [e1, e2]
        simpa using h3
      · have hcj0 : ¬ c - j = 0 := by omega
        have t0 : ((l.map (Value.int .i64)).take j).length = j * 1 := by simp; omega
        have t1 : ∀ i u, ((l.map (Value.int .i64)).take j)[i]? = some u → wr.cell? ((⟨g, 0, none⟩ : Addr).add i) = some u := by
          intro i u hu
          rw [List.getElem?_take] at hu
          split at hu
          · rw [List.getElem?_map] at hu
            obtain ⟨y, hy, rfl⟩ := Option.map_eq_some_iff.1 hu
            obtain ⟨hi, rfl⟩ := List.getElem?_eq_some_iff.1 hy
            rw [iAdd, Nat.zero_add]; exact HC.out i hi
          · cases hu
        have T0 := hide t0
        have T1 := hide t1
        clear t0 t1
        have m1 : 0 + j ≤ maxLen := by unfold maxLen; omega
        have m2 : j + 1 ≤ maxLen := by unfold maxLen; omega
        have m3 : j + 1 + (l.length - j) ≤ maxLen := by unfold maxLen; omega
        have M1 := hide m1
        have M2 := hide m2
        have M3 := hide m3
        clear m1 m2 m3
        go_wp2_with (at_builtin; refine wpList_append_own _ rfl _ _ 42 rfl wr.heap.size 3 i0 (.int .i64 0) 1 8 Tryz.underlying42 Hi.out hz0 hz1 hz2 rfl (by decide) _ _ _ rfl (World.ownsRow_nil _ _ _ _) ⟨g, 0, none⟩ j c ((l.map (Value.int .i64)).take j) rfl T0.out T1.out (iOneT _ _) M1.out (by omega) (Nat.le_refl _) ?_)
        intro v1 w1 hown1 hgrow1 _
        obtain ⟨ad1, c1, rfl⟩ := iOwn_form hown1
        have hB1 : Below wr.heap.size wr w1 := (Below.refl _ _).grown hgrow1 (Nat.le_refl _) (fun k hk => by cases hk)
        have hsz1 := hB1.size
        have HO1 := hide hown1
        clear hown1 hgrow1
        have t2 : ∀ i u, [Value.int .i64 n][i]? = some u → (w1.alloc (.cells #[.int .i64 n] 3)).cell? ((⟨w1.heap.size, 0, none⟩ : Addr).add i) = some u := by
          intro i u hu
          rw [iAdd, Nat.zero_add, cell_of_blk (heap_alloc_new w1 (.cells #[.int .i64 n] 3)), ← hu]
          simp
        have T2 := hide t2
        clear t2
        go_wp2_with (at_builtin; refine wpList_append_own _ rfl _ _ 42 rfl wr.heap.size 3 i0 (.int .i64 0) 1 8 Tryz.underlying42 Hi.out hz0 hz1 hz2 rfl (by decide) _ _ _ rfl (HO1.out.alloc _) ⟨w1.heap.size, 0, none⟩ 1 1 [.int .i64 n] rfl rfl T2.out (iOne [n]) M2.out (by omega) (by simp; omega) ?_)
        intro v2 w2 hown2 hgrow2 _
        obtain ⟨ad2, c2, rfl⟩ := iOwn_form hown2
        have hB2 : Below wr.heap.size wr w2 := (hB1.alloc hB1.size _).grown hgrow2 (by simp; omega) (fun k hk => (HO1.out.lt k hk).1)
        have hsz2 := hB2.size
        have HO2 := hide hown2
        clear hown2 hgrow2 HO1 hB1 hsz1
        have t3 : ∀ i u, ((l.map (Value.int .i64)).drop j)[i]? = some u → w2.cell? ((⟨g, j, none⟩ : Addr).add i) = some u := by
          intro i u hu
          rw [List.getElem?_drop, List.getElem?_map] at hu
          obtain ⟨y, hy, rfl⟩ := Option.map_eq_some_iff.1 hu
          obtain ⟨hi, rfl⟩ := List.getElem?_eq_some_iff.1 hy
          rw [iAdd, hB2.cell hg]; exact HC.out (j + i) hi
        have T3 := hide t3
        clear t3
        go_wp2_with (at_builtin; refine wpList_append_own _ rfl _ _ 42 rfl wr.heap.size 3 i0 (.int .i64 0) 1 8 Tryz.underlying42 Hi.out hz0 hz1 hz2 rfl (by decide) _ _ _ rfl HO2.out ⟨g, j, none⟩ (l.length - j) (c - j) ((l.map (Value.int .i64)).drop j) rfl (by simp) T3.out (iOneD _ _) M3.out (by omega) (by omega) ?_)
        intro v3 w3 hown3 hgrow3 _
        obtain ⟨ad3, c3, rfl⟩ := iOwn_form hown3
        have hB3 : Below wr.heap.size wr w3 := hB2.grown hgrow3 (by omega) (fun k hk => (HO2.out.lt k hk).1)
        have HO3 := hide hown3
        clear hown3 hgrow3
        go_wp2_with fail
        go_ret
        refine ⟨_, rfl, ?_, hB3⟩
        rw [HPut.out]
        refine IS.ofOwn (base := wr.heap.size) (e := 3) ?_
        have h3 := HO3.out
        have e1 : (l.take j ++ n :: l.drop j).length = j + 1 + (l.length - j) := by simp; omega
        have e2 : (l.take j ++ n :: l.drop j).map (Value.int .i64) = (l.map (Value.int .i64)).take j ++ [.int .i64 n] ++ (l.map (Value.int .i64)).drop j := by simp [List.map_take, List.map_drop]
        rw [e1, e2]
        simpa using h3

set_option maxHeartbeats 1000000 in
theorem l1Put_nil (n : Int) (w : World) :
    Calls Tryz.prog 65 #[.slice none 0 0, .int .i64 n] w fun e w' => ∃ s', e = .returned s' ∧ IS w' s' [n] ∧ Below w.heap.size w w' := by
  obtain ⟨i0, hi0, hz0, hz1, hz2⟩ := infoPartsT infoInt
  have Hi := hide hi0
  clear hi0
  have T2 : Hid (∀ i u, [Value.int .i64 n][i]? = some u → (w.alloc (.cells #[.int .i64 n] 3)).cell? ((⟨w.heap.size, 0, none⟩ : Addr).add i) = some u) := hide (by
    intro i u hu
    rw [iAdd, Nat.zero_add, cell_of_blk (heap_alloc_new w (.cells #[.int .i64 n] 3)), ← hu]
    simp)
  go_enter Tryz.func65, Tryz.ntmps65
  go_wp2_with fail
  go_loopw [5] (fun k w' => k = .int .i64 0 ∧ w' = w) (fun k _ => 0)
  case atStart => exact ⟨rfl, rfl⟩
  case round =>
    obtain ⟨rfl, rfl⟩ := hrel
    go_wp2_with (at_builtin; refine wpList_append_own _ rfl _ _ 42 rfl wr.heap.size 3 i0 (.int .i64 0) 1 8 Tryz.underlying42 Hi.out hz0 hz1 hz2 rfl (by decide) _ _ _ rfl (World.ownsRow_nil _ _ _ _) ⟨wr.heap.size, 0, none⟩ 1 1 [.int .i64 n] rfl rfl T2.out (iOne [n]) (by decide) (by omega) (by simp) ?_)
    intro v2 w2 hown2 hgrow2 _
    obtain ⟨ad2, c2, rfl⟩ := iOwn_form hown2
    have hB2 : Below wr.heap.size wr w2 := ((Below.refl _ _).alloc (Nat.le_refl _) _).grown hgrow2 (by simp) (fun k hk => by cases hk)
    have HO2 := hide hown2
    clear hown2 hgrow2
    go_wp2_with (at_builtin; refine wpList_append_own_none rfl _ _ 42 rfl wr.heap.size 3 i0 1 Tryz.underlying42 Hi.out _ _ _ rfl HO2.out rfl ?_)
    go_wp2_with fail
    go_ret
    exact ⟨_, rfl, IS.ofOwn (base := wr.heap.size) (e := 3) (l := [n]) HO2.out, hB2⟩
theorem l1Put_any (l : List Int) (n : Int) (s : Value) (w : World) (hl : l.length ≤ 1048576) (h : IS w s l) :
    Calls Tryz.prog 65 #[s, .int .i64 n] w fun e w' => ∃ s', e = .returned s' ∧ IS w' s' (put l n) ∧ Below w.heap.size w w' := by
  rcases h with ⟨rfl, rfl⟩ | ⟨g, c, rfl, h2, h3, h4⟩
  · exact l1Put_nil n w
  · exact l1Put_some l n g c w hl h2 h3 h4

set_option maxHeartbeats 400000 in
theorem l3Binds_any (k : Int) (i : Nat) (w : World) :
    Calls Tryz.prog 66 #[.int .i64 k, .int .i64 (i : Int)] w fun e w' => e = .returned (.int .i64 (binds k i : Int)) ∧ w' = w := by
  go_enter Tryz.func66, Tryz.ntmps66
  go_wp2
  all_goals
    go_ret
    refine ⟨ret_int ?_, rfl⟩
    simp_all [binds]
  all_goals (try (split <;> omega))
end Go.Proofs.YtnmkbpflbfhpnaaGreat.W

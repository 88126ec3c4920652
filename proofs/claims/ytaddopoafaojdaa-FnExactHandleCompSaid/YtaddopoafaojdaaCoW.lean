/-
  Numbers told that are more by so much, modulo 100: the model, and contracts of the program's sumTold, slices.Clone, tellingMore. Conditions: numbers of 0 to 99.
-/
import Derived.Test.YtaddopoafaojdaaCoT
namespace Go.Proofs.Ytaddopoafaojdaa.C
open Go.Proofs.Ytaddopoafaojdaa.W
open Go.ChangeShapes Go.WideShapes Go.ChangeAt Go.RowKit
set_option linter.unusedVariables false

/-- A cell that tells more. -/
def mp (d : Int) (x : Cc) : Cc := if x.k = 1 then ⟨1, (x.n + d) % 100⟩ else x
def Tr.add (d : Int) : Tr → Tr
  | .ret n => .ret ((n + d) % 100)
  | .ask n a b => .ask n (a.add d) (b.add d)
theorem Tr.add_flat (d : Int) : ∀ t : Tr, (t.add d).flat = t.flat.map (mp d)
  | .ret n => by simp [Tr.add, Tr.flat, mp]
  | .ask n a b => by simp [Tr.add, Tr.flat, mp, Tr.add_flat d a, Tr.add_flat d b]
theorem Tr.add_ok (d : Int) : ∀ t : Tr, t.ok → (t.add d).ok
  | .ret n, _ => by simp [Tr.add, Tr.ok, inB]; omega
  | .ask n a b, ⟨h, ha, hb⟩ => ⟨h, Tr.add_ok d a ha, Tr.add_ok d b hb⟩
theorem Tr.add_len (d : Int) (t : Tr) : (t.add d).flat.length = t.flat.length := by rw [Tr.add_flat, List.length_map]
/-- Numbers told are numbers of 0 to 99. -/
def tellOk (l : List Cc) : Prop := ∀ x ∈ l, x.k = 1 → 0 ≤ x.n ∧ x.n ≤ 99
theorem Tr.tellOk : ∀ t : Tr, t.ok → tellOk t.flat
  | .ret n, h => by
    intro x hx _
    simp [Tr.flat] at hx
    subst hx
    simpa [Tr.ok, inB] using h
  | .ask n a b, ⟨h, ha, hb⟩ => by
    intro x hx hk
    simp only [Tr.flat, List.mem_cons, List.mem_append] at hx
    rcases hx with rfl | hx | hx
    · simp at hk
    · exact Tr.tellOk a ha x hx hk
    · exact Tr.tellOk b hb x hx hk

set_option maxHeartbeats 400000 in
theorem sumTold_any (a b : Int) (w : World) (ha : 0 ≤ a) (ha' : a ≤ 99) (hb : 0 ≤ b) (hb' : b ≤ 99) :
    Calls Try.prog 57 #[.int .i64 a, .int .i64 b] w fun e w' => e = .returned (.int .i64 ((a + b) % 100)) ∧ w' = w := by
  go_enter Try.func57, Try.ntmps57
  go_wp2
  go_ret
  exact ⟨ret_int (by omega), rfl⟩

theorem cv_at : ∀ (l : List Cc) (j : Nat) (u : Value), (cv l)[j]? = some u → ∃ i, ∃ h : i < l.length, (j = i * 2 ∧ u = .int .i64 l[i].k) ∨ (j = i * 2 + 1 ∧ u = .int .i64 l[i].n)
  | [], j, u, h => by simp [cv] at h
  | x :: l, 0, u, h => ⟨0, by simp, .inl ⟨rfl, by simpa [cv] using h.symm⟩⟩
  | x :: l, 1, u, h => ⟨0, by simp, .inr ⟨rfl, by simpa [cv] using h.symm⟩⟩
  | x :: l, j + 2, u, h => by
    obtain ⟨i, hi, h1 | h1⟩ := cv_at l j u (by simpa [cv] using h)
    · exact ⟨i + 1, by simp; omega, .inl ⟨by omega, by simpa using h1.2⟩⟩
    · exact ⟨i + 1, by simp; omega, .inr ⟨by omega, by simpa using h1.2⟩⟩

theorem cv_one : ∀ (l : List Cc), ∀ u ∈ cv l, u.oneCell' = true
  | [], u, h => by simp [cv] at h
  | x :: l, u, h => by
    simp only [cv, List.mem_cons] at h
    rcases h with rfl | rfl | h
    · rfl
    · rfl
    · exact cv_one l u h

theorem CRow.news {w : World} {b o : Nat} {l : List Cc} (h : CRow w (some ⟨b, o, none⟩) l) : ∀ j u, (cv l)[j]? = some u → w.cell? ((⟨b, o, none⟩ : Addr).add j) = some u := by
  intro j u hu
  obtain ⟨i, hi, hc⟩ := cv_at l j u hu
  obtain ⟨b', o', he, -, p0, p1⟩ := h.tok (Below.refl _ _) hi
  simp only [Option.some.injEq, Addr.mk.injEq] at he
  obtain ⟨rfl, rfl, -⟩ := he
  rw [iAdd]
  rcases hc with ⟨rfl, rfl⟩ | ⟨rfl, rfl⟩
  · exact p0
  · rw [← Nat.add_assoc]; exact p1

set_option maxRecDepth 20000 in
set_option maxHeartbeats 2000000 in
theorem cloneC_any (b o c : Nat) (l : List Cc) (w : World) (hl : l.length ≤ 1048576) (h : CRow w (some ⟨b, o, none⟩) l) :
    Calls Try.prog 56 #[.slice (some ⟨b, o, none⟩) l.length c] w fun e w' => ∃ v, e = .returned v ∧ w'.ownsRow w.heap.size 52 2 v l.length (cv l) ∧ Below w.heap.size w w' := by
  obtain ⟨i0, hi0, hz0, hz1, hz2⟩ := infoPartsT infoCe
  have Hi := hide hi0
  have HR := hide h
  clear hi0 h
  go_enter Try.func56, Try.ntmps56
  have hnil : ∀ w, (binOp .eql 28 (.slice (some ⟨b, o, none⟩) l.length c) (.slice none 0 0)).run Try.prog w = .ok (.bool false) w := fun w => by rw [Lib.run_eql_slice_nil w 28 52 _ _ _ _ _ Try.underlying28]; rfl
  have HO0 : Hid ((w.alloc (.cells #[] 52)).ownsRow w.heap.size 52 2 (.slice (some ⟨w.heap.size, 0, none⟩) 0 0) 0 []) := hide ⟨rfl, .inr ⟨w.heap.size, 0, #[], rfl, Nat.le_refl _, heap_alloc_new w _, Nat.le_refl _, by omega, rfl, rfl⟩⟩
  have HNw := hide (HR.out.below ((Below.refl _ _).alloc (Nat.le_refl _) (.cells #[] 52))).news
  have M1 : Hid (0 + l.length ≤ maxLen) := hide (by unfold maxLen; omega)
  have HCl := hide (cv_len l)
  have hbB : w.heap.size ≤ (w.alloc (.cells #[] 52)).heap.size := by simp
  go_wp2_with (at_builtin; refine wpList_append_own _ rfl _ _ 28 rfl w.heap.size 52 i0 (.agg #[.int .i64 0, .int .i64 0]) 2 16 Try.underlying28 Hi.out hz0 hz1 hz2 rfl (by decide) _ 0 [] rfl HO0.out ⟨b, o, none⟩ l.length c (cv l) rfl HCl.out HNw.out (cv_one l) M1.out (by omega) hbB ?_)
  intro v1 w1 hown1 hgrow1 _
  obtain ⟨ad1, c1', rfl⟩ := iOwn_form hown1
  have hB1 : Below w.heap.size w w1 := ((Below.refl _ _).alloc (Nat.le_refl _) _).grown hgrow1 hbB (fun k hk => by simp only [Value.ownBlock, Option.some.injEq] at hk; omega)
  have HO1 := hide hown1
  clear hown1 hgrow1
  go_wp2_with fail
  go_ret
  exact ⟨_, rfl, HO1.out, hB1⟩

theorem set_self {α : Type} : ∀ (l : List α) (j : Nat) (x : α), l[j]? = some x → l.set j x = l
  | y :: l, 0, x, h => by simp at h; simp [h]
  | y :: l, j + 1, x, h => by simp at h; simp [set_self l j x (by simpa using h)]
  | [], j, x, h => by simp

theorem cv_set : ∀ (l : List Cc) (j : Nat) (x : Cc) (n : Int), l[j]? = some x → (cv l).set (j * 2 + 1) (.int .i64 n) = cv (l.set j ⟨x.k, n⟩)
  | y :: l, 0, x, n, h => by simp at h; subst h; rfl
  | y :: l, j + 1, x, n, h => by
    have := cv_set l j x n (by simpa using h)
    rw [show (j + 1) * 2 + 1 = (j * 2 + 1) + 1 + 1 by omega]
    simp [cv, this]
  | [], j, x, n, h => by simp at h

/-- The row lies in block g. -/
def RowIn (w : World) (g cap : Nat) (l : List Cc) : Prop := ∃ cur : Array Value, w.heap[g]? = some (.cells cur 52 (0, 0)) ∧ cur.size = cap * 2 ∧ l.length ≤ cap ∧ cur.toList.take (l.length * 2) = cv l

theorem RowIn.at {w : World} {g cap : Nat} {l : List Cc} (h : RowIn w g cap l) {j : Nat} {x : Cc} (hx : l[j]? = some x) : w.cell? ⟨g, j * 2, none⟩ = some (.int .i64 x.k) ∧ w.cell? ⟨g, j * 2 + 1, none⟩ = some (.int .i64 x.n) := by
  obtain ⟨cur, hh, h1, h2, h3⟩ := h
  obtain ⟨hj, rfl⟩ := List.getElem?_eq_some_iff.1 hx
  obtain ⟨a0, a1⟩ := cv_get l j hj
  have b : ∀ i, i < l.length * 2 → cur[i]? = (cv l)[i]? := fun i hi => by rw [← h3, List.getElem?_take_of_lt hi]; simp
  exact ⟨by rw [cell_of_blk hh, b _ (by omega)]; exact a0, by rw [cell_of_blk hh, b _ (by omega)]; exact a1⟩

theorem RowIn.set {w : World} {g cap : Nat} {l : List Cc} (h : RowIn w g cap l) {j : Nat} {x : Cc} (hx : l[j]? = some x) (n : Int) : RowIn (w.setCell ⟨g, j * 2 + 1, none⟩ (.int .i64 n)) g cap (l.set j ⟨x.k, n⟩) := by
  obtain ⟨cur, hh, h1, h2, h3⟩ := h
  refine ⟨_, blk_setCell hh _, by simpa using h1, by simpa using h2, ?_⟩
  rw [← cv_set l j x n hx, ← h3]
  rw [Array.toList_setIfInBounds, List.length_set, List.take_set]

theorem RowIn.keep {w w' : World} {g cap : Nat} {l : List Cc} (h : RowIn w g cap l) (hb : w'.heap[g]? = w.heap[g]?) : RowIn w' g cap l := by
  obtain ⟨cur, hh, h1⟩ := h
  exact ⟨cur, hb.trans hh, h1⟩

theorem RowIn.own {w : World} {g cap base : Nat} {l : List Cc} (h : RowIn w g cap l) (hb : base ≤ g) (hc : cap ≤ maxLen) : w.ownsRow base 52 2 (.slice (some ⟨g, 0, none⟩) l.length cap) l.length (cv l) := by
  obtain ⟨cur, hh, h1, h2, h3⟩ := h
  exact ⟨cv_len l, .inr ⟨g, cap, cur, rfl, hb, hh, h2, hc, h1, h3⟩⟩

/-- The row behind j rounds. -/
def rowAt (f : Cc → Cc) (l : List Cc) (j : Nat) : List Cc := (l.take j).map f ++ l.drop j
theorem rowAt_len (f : Cc → Cc) (l : List Cc) (j : Nat) : (rowAt f l j).length = l.length := by simp [rowAt]; omega
theorem rowAt_at (f : Cc → Cc) (l : List Cc) (j : Nat) (h : j < l.length) : (rowAt f l j)[j]? = some l[j] := by
  unfold rowAt
  rw [List.getElem?_append_right (by simp; omega)]
  simp [Nat.min_eq_left (Nat.le_of_lt h), h]
theorem rowAt_succ (f : Cc → Cc) (l : List Cc) (j : Nat) (h : j < l.length) : rowAt f l (j + 1) = (rowAt f l j).set j (f l[j]) := by
  unfold rowAt
  rw [List.take_succ_eq_append_getElem h, List.map_append, List.set_append_right _ _ (by simp; omega)]
  simp [Nat.min_eq_left (Nat.le_of_lt h)]
  rw [List.drop_eq_getElem_cons h]
  rfl
theorem rowAt_all (f : Cc → Cc) (l : List Cc) : rowAt f l l.length = l.map f := by simp [rowAt]

set_option maxRecDepth 20000 in
set_option maxHeartbeats 4000000 in
theorem telling_any (b o c : Nat) (l : List Cc) (d : Int) (w : World) (hl : l.length ≤ 1048576) (hpos : 0 < l.length) (h0 : 0 ≤ d) (h1 : d ≤ 99) (hok : tellOk l) (h : CRow w (some ⟨b, o, none⟩) l) :
    Calls Try.prog 40 #[.slice (some ⟨b, o, none⟩) l.length c, .int .i64 d] w fun e w' => ∃ g cap, e = .returned (.slice (some ⟨g, 0, none⟩) l.length cap) ∧ w'.ownsRow w.heap.size 52 2 (.slice (some ⟨g, 0, none⟩) l.length cap) l.length (cv (l.map (mp d))) ∧ Below w.heap.size w w' := by
  have HCl := hide (cloneC_any b o c l w hl h)
  have HOk := hide hok
  clear h hok
  go_enter Try.func40, Try.ntmps40
  go_wp2_with fail
  refine HCl.out.mono ?_
  rintro e w2 ⟨v, rfl, ho2, hb2⟩
  obtain ⟨-, ⟨-, h0⟩ | ⟨g, cap, cur, rfl, hgb, hh, hc1, hc2, hc3, hc4⟩⟩ := ho2
  · omega
  have HR2 : Hid (RowIn w2 g cap (rowAt (mp d) l 0)) := hide (by rw [show rowAt (mp d) l 0 = l by simp [rowAt]]; exact ⟨cur, hh, hc3, hc1, hc4⟩)
  have hg2 : g < w2.heap.size := (Array.getElem?_eq_some_iff.1 hh).1
  clear hh hc3 hc4 HCl
  go_wp2_with fail
  go_loopw [12] (fun i w' => ∃ j : Nat, j ≤ l.length ∧ i = .int .i64 j ∧ RowIn w' g cap (rowAt (mp d) l j) ∧ Below w.heap.size w w' ∧ w2.heap.size ≤ w'.heap.size) (fun i _ => l.length - (intOf i).toNat)
  case atStart => exact ⟨0, by omega, rfl, HR2.out, hb2, Nat.le_refl _⟩
  case round =>
    obtain ⟨j, hj, rfl, hR, hB, hsz⟩ := hrel
    have HR := hide hR
    clear hR HR2
    by_cases hlt : j < l.length
    · have hlt' : (j : Int) < (l.length : Int) := by omega
      have hxat := rowAt_at (mp d) l j hlt
      have hox := HOk.out _ (List.getElem_mem hlt)
      have hsucc := rowAt_succ (mp d) l j hlt
      obtain ⟨x, hx⟩ : ∃ x, x = l[j] := ⟨_, rfl⟩
      rw [← hx] at hxat hox hsucc
      obtain ⟨p0, p1⟩ := HR.out.at hxat
      have HXat := hide hxat
      have HSucc := hide hsucc
      have HOx := hide hox
      clear hx hxat hsucc hox
      have hng : ¬ wr.heap.size = g := by omega
      by_cases hk : x.k = 1
      · have hn := HOx.out hk
        have hmp : mp d x = ⟨x.k, (x.n + d) % 100⟩ := by unfold mp; rw [if_pos hk, hk]
        have HMp := hide hmp
        obtain ⟨xk, xn⟩ := x
        simp only at *
        subst hk
        have HC := hide (fun w' => sumTold_any xn d w' hn.1 hn.2 h0 h1)
        have hgb5 : (wr.alloc (.cells #[.int .i64 1, .int .i64 xn] 52)).heap[g]? = wr.heap[g]? := heap_alloc_old _ _ (by omega)
        have HR5 := hide (HR.out.keep hgb5)
        obtain ⟨c0, c1⟩ := HR5.out.at HXat.out
        have fz : ∀ i, (wr.alloc (.cells #[.int .i64 1, .int .i64 xn] 52)).frozen? ⟨g, i, none⟩ = false := by obtain ⟨cur5, hh5, -⟩ := HR5.out; exact fun i => unfrozen_of_blk hh5 i
        have fz' : ∀ i, wr.frozen? ⟨g, i, none⟩ = false := by obtain ⟨cur5, hh5, -⟩ := HR.out; exact fun i => unfrozen_of_blk hh5 i
        have HB5 : Hid (Below w.heap.size w (wr.alloc (.cells #[.int .i64 1, .int .i64 xn] 52))) := hide (hB.alloc hB.size _)
        clear hmp hgb5
        obtain ⟨S, hS⟩ : ∃ S, S = (xn + d) % 100 := ⟨_, rfl⟩
        rw [← hS] at HC HMp
        clear hS
        go_wp2_with fail
        refine (HC.out _).mono ?_
        rintro e w5 ⟨rfl, hw5⟩
        obtain ⟨w6, hw6⟩ : ∃ w6, w6 = wr.alloc (.cells #[.int .i64 1, .int .i64 xn] 52) := ⟨_, rfl⟩
        rw [← hw6] at hw5 HR5 c0 c1 fz HB5
        subst hw5
        clear p0 p1 HC fz'
        have hsz6 : w2.heap.size ≤ w5.heap.size := by rw [hw6]; simp; omega
        clear hw6
        go_wp2_with fail
        have hR6 := HR5.out.set HXat.out S
        refine ⟨⟨j + 1, by omega, by go_num, ?_, HB5.out.setCell (p := ⟨g, j * 2 + 1, none⟩) hgb _, by simp [World.setCell]; omega⟩, by simp [intOf]; omega⟩
        rw [HSucc.out, HMp.out]; exact hR6
      · have hmp : mp d x = x := by unfold mp; rw [if_neg hk]
        have HRow : Hid (rowAt (mp d) l (j + 1) = rowAt (mp d) l j) := hide (by rw [HSucc.out, hmp]; exact set_self _ _ _ HXat.out)
        have hkb : (x.k == 1) = false := by simpa using hk
        clear hmp
        go_wp2_with fail
        refine ⟨⟨j + 1, by omega, by go_num, ?_, hB.alloc hB.size _, by simp; omega⟩, by simp [intOf]; omega⟩
        rw [HRow.out]; exact HR.out.keep (heap_alloc_old _ _ (by omega))
    · obtain rfl : j = l.length := by omega
      have hfin : wr.ownsRow w.heap.size 52 2 (.slice (some ⟨g, 0, none⟩) l.length cap) l.length (cv (l.map (mp d))) := by
        have h1 := HR.out.own hgb hc2
        rw [rowAt_len, rowAt_all] at h1
        exact h1
      have HF := hide hfin
      clear hfin
      go_wp2_with fail
      go_ret
      exact ⟨_, _, rfl, HF.out, hB⟩
end Go.Proofs.Ytaddopoafaojdaa.C

/-
  Flows in memory (a graph, and of each block what it uses and what it sets), and contracts of the laws' functions over them. Conditions: at most 1048576 blocks where they are copied. Written by wip/build/mk_lvf.py.
-/
import Derived.Test.YtaniiolphghhiabGrL
import Derived.Test.YtaniiolphghhiabLvM
import Derived.Deep.RegionHeld3
import Derived.Deep.CutRange
namespace Go.Proofs.Ytaniiolphghhiab.W
open Go.ChangeShapes Go.WideShapes Go.ChangeAt Go.RowKit Go.Joins
set_option linter.unusedVariables false

/-- Rows that fill blocks of their own. -/
def QBT (T : TypeId) (w : World) (S : Nat) (L : List (List Int)) : Prop :=
  ∃ cur, w.heap[S]? = some (.cells cur T (0, 0)) ∧ cur.size = L.length ∧ ∀ q (h : q < L.length), ∃ g, cur[q]? = some (.slice (some ⟨g, 0, none⟩) L[q].length L[q].length) ∧ S < g ∧ IBlk w g L[q]
theorem QBT.row {T : TypeId} {w : World} {S : Nat} {L : List (List Int)} (h : QBT T w S L) : QRow w (some ⟨S, 0, none⟩) L := by
  obtain ⟨cur, hh, hs, hq⟩ := h
  refine .inr ⟨S, 0, rfl, (Array.getElem?_eq_some_iff.1 hh).1, fun i hi => ?_⟩
  obtain ⟨g, h1, h2, h3⟩ := hq i hi
  exact ⟨_, by rw [cell_of_blk hh, Nat.zero_add]; exact h1, _, _, rfl, h3.row, Nat.le_refl _⟩
theorem QBT.below {T : TypeId} {w w' : World} {S : Nat} {L : List (List Int)} (h : QBT T w S L) (hb : Below w.heap.size w w') : QBT T w' S L := by
  obtain ⟨cur, hh, hs, hq⟩ := h
  refine ⟨cur, (hb.block S (Array.getElem?_eq_some_iff.1 hh).1).trans hh, hs, fun q hqq => ?_⟩
  obtain ⟨g, h1, h2, h3⟩ := hq q hqq
  exact ⟨g, h1, h2, h3.below hb⟩

/-- Rules in blocks of their own, from lo up to hi. -/
def QMT (T : TypeId) (w : World) (lo hi S : Nat) (L : List (List Int)) : Prop :=
  ∃ cur, w.heap[S]? = some (.cells cur T (0, 0)) ∧ ∀ q (h : q < L.length), ∃ g, cur[q]? = some (.slice (some ⟨g, 0, none⟩) L[q].length L[q].length) ∧ lo ≤ g ∧ g < hi ∧ S < g ∧ SBk 3 w g (L[q].length * 1)
theorem QBT.qmt {T : TypeId} {w : World} {lo S : Nat} {L : List (List Int)} (h : QBT T w S L) (hl : lo ≤ S) : QMT T w lo w.heap.size S L := by
  obtain ⟨cur, h1, h2, h3⟩ := h
  refine ⟨cur, h1, fun q hq => ?_⟩
  obtain ⟨g, g1, g2, g3⟩ := h3 q hq
  exact ⟨g, g1, by omega, g3.lt, g2, RBlk.sbk g3⟩
theorem QMT.below {T : TypeId} {w w' : World} {lo hi S : Nat} {L : List (List Int)} (h : QMT T w lo hi S L) (hb : Below w.heap.size w w') : QMT T w' lo hi S L := by
  obtain ⟨cur, h1, h3⟩ := h
  refine ⟨cur, (hb.block S (Array.getElem?_eq_some_iff.1 h1).1).trans h1, fun q hq => ?_⟩
  obtain ⟨g, g1, g2, g3, g4, g5⟩ := h3 q hq
  exact ⟨g, g1, g2, g3, g4, g5.below hb⟩
theorem QMT.keep {T : TypeId} {w w' : World} {lo hi S : Nat} {L : List (List Int)} (h : QMT T w lo hi S L) (hk : ∀ k, S ≤ k → k < w.heap.size → w'.heap[k]? = w.heap[k]?) : QMT T w' lo hi S L := by
  obtain ⟨cur, h1, h3⟩ := h
  refine ⟨cur, (hk S (Nat.le_refl _) (Array.getElem?_eq_some_iff.1 h1).1).trans h1, fun q hq => ?_⟩
  obtain ⟨g, g1, g2, g3, g4, c2, k1, k2⟩ := h3 q hq
  exact ⟨g, g1, g2, g3, g4, c2, (hk g (by omega) (Array.getElem?_eq_some_iff.1 k1).1).trans k1, k2⟩
theorem QMT.oth {T : TypeId} {w w' : World} {lo hi S g0 : Nat} {L : List (List Int)} (h : QMT T w lo hi S L) (ho : Oth g0 w w') (hs : g0 ≠ S) (hk : ∀ m, SBk 3 w g0 m → SBk 3 w' g0 m) : QMT T w' lo hi S L := by
  obtain ⟨cur, h1, h3⟩ := h
  refine ⟨cur, (ho.block S (Array.getElem?_eq_some_iff.1 h1).1 (fun e => hs e.symm)).trans h1, fun q hq => ?_⟩
  obtain ⟨g, g1, g2, g3, g4, g5⟩ := h3 q hq
  refine ⟨g, g1, g2, g3, g4, ?_⟩
  by_cases e : g = g0
  · subst e; exact hk _ g5
  · obtain ⟨c2, k1, k2⟩ := g5
    exact ⟨c2, (ho.block g (Array.getElem?_eq_some_iff.1 k1).1 e).trans k1, k2⟩

theorem QBT.setne {T : TypeId} {w : World} {S : Nat} {L : List (List Int)} (h : QBT T w S L) (b' i : Nat) (v : Value) (hn : b' < S) : QBT T (w.setCell ⟨b', i, none⟩ v) S L := by
  obtain ⟨cur, hh, hs, hq⟩ := h
  refine ⟨cur, (Below.heap_setCell _ _ _ _ (by show S ≠ b'; omega)).trans hh, hs, fun q hqq => ?_⟩
  obtain ⟨g, h1, h2, h3⟩ := hq q hqq
  exact ⟨g, h1, h2, RBlk.setne h3 _ _ _ (by omega)⟩

/-- What a walk wants of one block. -/
theorem QRow.two {w w' : World} {ad : Option Addr} {F : List (List Int)} (h : QRow w ad F) (hb : Below w.heap.size w w') {n j : Nat} (hF : F.length = 2 * n) (hj : j < n) :
    ∃ b o a0 c0 a1 c1, ad = some ⟨b, o, none⟩ ∧ b < w.heap.size ∧ w'.cell? ⟨b, o + j * 2, none⟩ = some (.slice a0 (fu F j).length c0) ∧ w'.cell? ⟨b, o + j * 2 + 1, none⟩ = some (.slice a1 (fs F j).length c1) ∧ IRow w' a0 (fu F j) ∧ IRow w' a1 (fs F j) ∧ (fu F j).length ≤ c0 ∧ (fs F j).length ≤ c1 := by
  obtain ⟨b, o, v0, rfl, hb1, p0, a0, c0, rfl, r0, k0⟩ := QRow.at h hb (show 2 * j < F.length by omega)
  obtain ⟨b', o', v1, e, -, p1, a1, c1, rfl, r1, k1⟩ := QRow.at h hb (show 2 * j + 1 < F.length by omega)
  simp only [Option.some.injEq, Addr.mk.injEq, and_true] at e
  obtain ⟨rfl, rfl⟩ := e
  have e0 : fu F j = F[2 * j] := row_at (by omega)
  have e1 : fs F j = F[2 * j + 1] := row_at (by omega)
  rw [e0, e1]
  exact ⟨b, o, a0, c0, a1, c1, rfl, hb1, by rw [show o + j * 2 = o + 2 * j by omega]; exact p0, by rw [show o + j * 2 + 1 = o + (2 * j + 1) by omega]; exact p1, r0, r1, k0, k1⟩
def FFit (n : Nat) (F : List (List Int)) : Prop := n ≤ maxLen ∧ ∀ l ∈ F, l.length ≤ maxLen
def FSm (n : Nat) (F : List (List Int)) : Prop := n ≤ 1048576 ∧ ∀ l ∈ F, l.length ≤ 1048576
theorem row_sm {F : List (List Int)} {m : Nat} (h : ∀ l ∈ F, l.length ≤ m) (k : Nat) : (row F k).length ≤ m := by
  by_cases hk : k < F.length
  · rw [row_at hk]; exact h _ (List.getElem_mem hk)
  · rw [row_out hk]; simp
/-- v is a flow: a graph with these rows, n blocks. -/
def FRow (w : World) (v : Value) (D : List (List Int)) (n : Nat) (F : List (List Int)) : Prop :=
  ∃ ad c bd bc, v = .agg #[.slice ad D.length c, .slice bd n bc] ∧ QRow w ad D ∧ QSm D ∧ D.length ≤ c ∧ QRow w bd F ∧ FSm n F ∧ n ≤ bc ∧ F.length = 2 * n
theorem FRow.below {w w' : World} {v : Value} {D F : List (List Int)} {n : Nat} (h : FRow w v D n F) (hb : Below w.heap.size w w') : FRow w' v D n F := by
  obtain ⟨ad, c, bd, bc, h1, h2, h3, h4, h5, h6⟩ := h
  exact ⟨ad, c, bd, bc, h1, h2.below hb, h3, h4, h5.below hb, h6⟩

set_option maxHeartbeats 1000000 in
theorem szBlock_any (a0 : Option Addr) (c0 n0 : Nat) (a1 : Option Addr) (c1 n1 : Nat) (left : Int) (w : World) (hl0 : n0 ≤ maxLen) (hl1 : n1 ≤ maxLen) (h0 : 0 ≤ left) (h1 : left ≤ 1048576) :
    Calls Try.prog 34 #[.agg #[.slice a0 n0 c0, .slice a1 n1 c1], .int .i64 left] w fun e w' => ∃ r : Int, e = .returned (.int .i64 r) ∧ (r < 0 ∨ 0 ≤ r ∧ r ≤ 1048576 ∧ n0 ≤ 1048576 ∧ n1 ≤ 1048576) ∧ Below w.heap.size w w' := by
  have hB : Below w.heap.size w (w.alloc (.cells #[.slice a0 n0 c0, .slice a1 n1 c1] 63)) := (Below.refl _ _).alloc (Nat.le_refl _) _
  go_enter Try.func34, Try.ntmps34
  go_wp2_with fail
  refine Calls.mono (szIntS_any a0 c0 n0 left _ hl0 h0 h1) ?_
  rintro e w1 ⟨r, rfl, hr, hw⟩
  obtain rfl := hw.symm
  by_cases hneg : r < 0
  · clear hr
    go_wp2_with fail
    go_ret
    exact ⟨_, rfl, .inl (by omega), hB⟩
  obtain ⟨r0, r1, rn⟩ := hr.resolve_left hneg
  clear hr
  go_wp2_with fail
  refine Calls.mono (szIntS_any a1 c1 n1 r _ hl1 r0 r1) ?_
  rintro e w1 ⟨q, rfl, hq, hw⟩
  obtain rfl := hw.symm
  by_cases hneg2 : q < 0
  · clear hq
    go_wp2_with fail
    go_ret
    exact ⟨_, rfl, .inl (by omega), hB⟩
  obtain ⟨q0, q1, qn⟩ := hq.resolve_left hneg2
  clear hq
  go_wp2_with fail
  go_ret
  exact ⟨_, rfl, .inr ⟨q0, q1, rn, qn⟩, hB⟩

set_option maxHeartbeats 2000000 in
theorem szBlockS_any (ad : Option Addr) (c n : Nat) (F : List (List Int)) (m : Int) (w' : World) {w : World} (hn : FFit n F) (hF : F.length = 2 * n) (h : QRow w ad F) (hb : Below w.heap.size w w') (hm0 : 0 ≤ m) (hm1 : m ≤ 1048576) :
    Calls Try.prog 14 #[.slice ad n c, .int .i64 m] w' fun e w'' => ∃ r : Int, e = .returned (.int .i64 r) ∧ (r < 0 ∨ FSm n F) ∧ Below w'.heap.size w' w'' := by
  have hl2 : (n : Int) ≤ 9223372036854775807 := by have := hn.1; unfold maxLen at this; omega
  have HR := hide h
  have HS := hide (fun k => row_sm (m := maxLen) hn.2 k)
  have hB := hb
  have HF := hide hF
  clear h hn hb hF
  by_cases hbig : m < (n : Int)
  · go_enter Try.func14, Try.ntmps14
    go_wp2_with fail
    go_ret
    exact ⟨_, rfl, .inl (by omega), Below.refl _ _⟩
  · have hln : n ≤ 1048576 := by omega
    have hge : ¬ m - (n : Int) < 0 := by omega
    clear hl2
    go_enter Try.func14, Try.ntmps14
    go_wp2_with fail
    go_loopw [1, 5] (fun v1 i w1 => ∃ (j : Nat) (q : Int), j ≤ n ∧ i = .int .i64 j ∧ v1 = .int .i64 q ∧ 0 ≤ q ∧ q ≤ 1048576 ∧ (∀ k, k < j → (fu F k).length ≤ 1048576 ∧ (fs F k).length ≤ 1048576) ∧ Below w'.heap.size w' w1) (fun _ i _ => n - (intOf i).toNat)
    case atStart => exact ⟨0, m - (n : Int), by omega, rfl, rfl, by omega, by omega, by intros; omega, Below.refl _ _⟩
    case round =>
      obtain ⟨j, q, hj, rfl, rfl, hq0, hq1, hall, hBw⟩ := hrel
      have HA := hide hall
      clear hall
      have HBw := hide hBw
      by_cases hlt : j < n
      · have hlt' : (j : Int) < (n : Int) := by omega
        obtain ⟨b, o, a0, c0, a1, c1, rfl, hb, p0, p1, -, -, -, -⟩ := QRow.two HR.out (hB.trans (hBw.mono hB.size)) HF.out hlt
        have s0 : (fu F j).length ≤ maxLen := HS.out (2 * j)
        have s1 : (fs F j).length ≤ maxLen := HS.out (2 * j + 1)
        obtain ⟨x0, hx0⟩ : ∃ x, x = (fu F j).length := ⟨_, rfl⟩
        obtain ⟨x1, hx1⟩ : ∃ x, x = (fs F j).length := ⟨_, rfl⟩
        rw [← hx0] at p0 s0
        rw [← hx1] at p1 s1
        have HX0 := hide hx0
        have HX1 := hide hx1
        clear hx0 hx1 hBw
        go_wp2_with fail
        refine Calls.mono (szBlock_any a0 c0 x0 a1 c1 x1 q _ s0 s1 hq0 hq1) ?_
        rintro e w2 ⟨r, rfl, hr, hw⟩
        have hB2 := HBw.out.trans (hw.mono HBw.out.size)
        clear p0 p1 hw
        by_cases hneg : r < 0
        · clear hr
          go_wp2_with fail
          go_ret
          exact ⟨_, rfl, .inl (by omega), hB2⟩
        · obtain ⟨r0, r1, rx, ry⟩ := hr.resolve_left hneg
          clear hr
          go_wp2_with fail
          refine ⟨⟨j + 1, r, by omega, by go_num, rfl, by omega, by omega, fun k hkj => ?_, hB2⟩, by simp [intOf]; omega⟩
          by_cases e : k = j
          · subst e; exact ⟨by rw [← HX0.out]; exact rx, by rw [← HX1.out]; exact ry⟩
          · exact HA.out k (by omega)
      · obtain rfl : j = n := by omega
        go_wp2_with fail
        go_ret
        refine ⟨_, rfl, .inr ⟨hln, fun l hl => ?_⟩, HBw.out⟩
        obtain ⟨k, hk, rfl⟩ := List.getElem_of_mem hl
        have hF := HF.out
        rcases Nat.mod_two_eq_zero_or_one k with e | e
        · have := (HA.out (k / 2) (by omega)).1
          unfold fu at this
          rw [show 2 * (k / 2) = k by omega, row_at hk] at this
          exact this
        · have := (HA.out (k / 2) (by omega)).2
          unfold fs at this
          rw [show 2 * (k / 2) + 1 = k by omega, row_at hk] at this
          exact this

set_option maxHeartbeats 2000000 in
theorem szIntSSR_any (ad : Option Addr) (c : Nat) (L : List (List Int)) (m : Int) (w' : World) {w : World} (hn : QFit L) (h : QRow w ad L) (hb : Below w.heap.size w w') (hm0 : 0 ≤ m) (hm1 : m ≤ 1048576) :
    Calls Try.prog 33 #[.slice ad L.length c, .int .i64 m] w' fun e w'' => ∃ r : Int, e = .returned (.int .i64 r) ∧ (r < 0 ∨ 0 ≤ r ∧ r ≤ 1048576 ∧ QSm L) ∧ Below w'.heap.size w' w'' := by
  have hl2 : (L.length : Int) ≤ 9223372036854775807 := by have := hn.1; unfold maxLen at this; omega
  have HR := hide h
  have HS := hide hn.2
  have hB := hb
  clear h hn hb
  by_cases hbig : m < (L.length : Int)
  · go_enter Try.func33, Try.ntmps33
    go_wp2_with fail
    go_ret
    exact ⟨_, rfl, .inl (by omega), Below.refl _ _⟩
  · have hln : L.length ≤ 1048576 := by omega
    have hge : ¬ m - (L.length : Int) < 0 := by omega
    clear hl2
    go_enter Try.func33, Try.ntmps33
    go_wp2_with fail
    go_loopw [1, 5] (fun v1 i w1 => ∃ (j : Nat) (q : Int), j ≤ L.length ∧ i = .int .i64 j ∧ v1 = .int .i64 q ∧ 0 ≤ q ∧ q ≤ 1048576 ∧ (∀ k (hk : k < L.length), k < j → L[k].length ≤ 1048576) ∧ w1 = w') (fun _ i _ => L.length - (intOf i).toNat)
    case atStart => exact ⟨0, m - (L.length : Int), by omega, rfl, rfl, by omega, by omega, by intros; omega, rfl⟩
    case round =>
      obtain ⟨j, q, hj, rfl, rfl, hq0, hq1, hall, rfl⟩ := hrel
      have HA := hide hall
      clear hall
      by_cases hlt : j < L.length
      · have hlt' : (j : Int) < (L.length : Int) := by omega
        obtain ⟨b, o, v, rfl, hb, p0, pv⟩ := QRow.at HR.out hB hlt
        have hsz := HS.out _ (List.getElem_mem hlt)
        have HN := hide (fun (n : Nat) (h : n = L[j].length) => szIntS_any)
        obtain ⟨ad1, c1, rfl, -, -⟩ := pv
        obtain ⟨x, hx⟩ : ∃ x, x = L[j].length := ⟨_, rfl⟩
        rw [← hx] at p0 hsz
        have HX := hide hx
        clear hx HN
        go_wp2_with fail
        refine Calls.mono (szIntS_any ad1 c1 x q _ hsz hq0 hq1) ?_
        rintro e w2 ⟨r, rfl, hr, hw⟩
        obtain rfl := hw.symm
        clear p0
        by_cases hneg : r < 0
        · clear hr
          go_wp2_with fail
          go_ret
          exact ⟨_, rfl, .inl (by omega), Below.refl _ _⟩
        · obtain ⟨r0, r1, rx⟩ := hr.resolve_left hneg
          clear hr
          go_wp2_with fail
          refine ⟨⟨j + 1, r, by omega, by go_num, rfl, by omega, by omega, fun k hk hkj => ?_, trivial⟩, by simp [intOf]; omega⟩
          by_cases e : k = j
          · subst e; rw [← HX.out]; exact rx
          · exact HA.out k hk (by omega)
      · obtain rfl : j = L.length := by omega
        go_wp2_with fail
        go_ret
        refine ⟨_, rfl, .inr ⟨hq0, hq1, hln, fun l hl => ?_⟩, Below.refl _ _⟩
        obtain ⟨k, hk, rfl⟩ := List.getElem_of_mem hl
        exact HA.out k hk hk

set_option maxHeartbeats 1000000 in
theorem szGraphR_any (ad : Option Addr) (c : Nat) (L : List (List Int)) (m : Int) {w : World} (hn : QFit L) (h : QRow w ad L) (h0 : 0 ≤ m) (h1 : m ≤ 1048576) (w0 : World) (hb : Below w.heap.size w w0) :
    Calls Try.prog 13 #[.agg #[.slice ad L.length c], .int .i64 m] w0 fun e w' => ∃ r : Int, e = .returned (.int .i64 r) ∧ (r < 0 ∨ 0 ≤ r ∧ r ≤ 1048576 ∧ QSm L) ∧ Below w0.heap.size w0 w' := by
  have HC := hide (fun w' hb => szIntSSR_any ad c L m w' hn h hb h0 h1)
  have hB : Below w0.heap.size w0 (w0.alloc (.cells #[.slice ad L.length c] 24)) := (Below.refl _ _).alloc (Nat.le_refl _) _
  have hB2 := hb.trans (hB.mono hb.size)
  clear hn h h0 h1
  go_enter Try.func13, Try.ntmps13
  go_wp2_with fail
  refine Calls.mono (HC.out _ hB2) ?_
  rintro e w1 ⟨r, rfl, hr, hw⟩
  have hB3 := hB.trans (hw.mono hB.size)
  clear hw hB hB2 HC
  by_cases hneg : r < 0
  · clear hr
    go_wp2_with fail
    go_ret
    exact ⟨_, rfl, .inl (by omega), hB3⟩
  · have hr' := hr.resolve_left hneg
    clear hr
    go_wp2_with fail
    go_ret
    exact ⟨_, rfl, .inr hr', hB3⟩

set_option maxHeartbeats 1000000 in
theorem szFlow_any (ad : Option Addr) (c : Nat) (D : List (List Int)) (bd : Option Addr) (bc n : Nat) (F : List (List Int)) (m : Int) {w : World} (hn : QFit D) (h : QRow w ad D) (hnF : FFit n F) (hF : F.length = 2 * n) (hR : QRow w bd F) (h0 : 0 ≤ m) (h1 : m ≤ 1048576) (w0 : World) (hb : Below w.heap.size w w0) :
    Calls Try.prog 4 #[.agg #[.slice ad D.length c, .slice bd n bc], .int .i64 m] w0 fun e w' => ∃ r : Int, e = .returned (.int .i64 r) ∧ (r < 0 ∨ QSm D ∧ FSm n F) ∧ Below w0.heap.size w0 w' := by
  have HC := hide (fun w' hb => szGraphR_any ad c D m hn h h0 h1 w' hb)
  have HD := hide (fun (q : Int) w' (hq0 : 0 ≤ q) (hq1 : q ≤ 1048576) hb => szBlockS_any bd bc n F q w' hnF hF hR hb hq0 hq1)
  have hB : Below w0.heap.size w0 (w0.alloc (.cells #[.slice ad D.length c, .slice bd n bc] 27)) := (Below.refl _ _).alloc (Nat.le_refl _) _
  have HX := hide (Bx.new w0 #[.slice ad D.length c, .slice bd n bc] 27)
  have hB2 := hb.trans (hB.mono hb.size)
  clear hn h h0 h1 hnF hF hR
  obtain ⟨W1, hW1⟩ : ∃ W1, W1 = w0.alloc (.cells #[.slice ad D.length c, .slice bd n bc] 27) := ⟨_, rfl⟩
  obtain ⟨X, hX⟩ : ∃ X, X = w0.heap.size := ⟨_, rfl⟩
  go_enter Try.func4, Try.ntmps4
  go_upto_region 1 with fail
  rw [← hW1] at HX hB hB2 ⊢
  rw [← hX] at HX ⊢
  clear hW1
  have hX0 := hide hX
  clear hX
  have cX := HX.out.c
  go_wp2_with fail
  refine Calls.mono (HC.out _ hB2) ?_
  rintro e w1 ⟨r, rfl, hr, hw⟩
  have hB3 := hB.trans (hw.mono hB.size)
  have hB4 := hB2.trans (hw.mono hB2.size)
  clear cX
  have cX := (HX.out.below hw HX.out.lt).c
  clear hw hB hB2 HC
  by_cases hneg : r < 0
  · clear hr
    go_wp2_with fail
    go_ret
    exact ⟨_, rfl, .inl (by omega), hB3⟩
  obtain ⟨r0, r1, hr'⟩ := hr.resolve_left hneg
  clear hr
  go_wp2_with fail
  refine Calls.mono (HD.out r _ r0 r1 hB4) ?_
  rintro e w2 ⟨q, rfl, hq, hw⟩
  have hB5 := hB3.trans (hw.mono hB3.size)
  clear hw hB3 hB4 HD cX
  by_cases hneg2 : q < 0
  · clear hq
    go_wp2_with fail
    go_ret
    exact ⟨_, rfl, .inl (by omega), hB5⟩
  have hq' := hq.resolve_left hneg2
  clear hq
  go_wp2_with fail
  go_ret
  exact ⟨_, rfl, .inr ⟨hr', hq'⟩, hB5⟩

set_option maxHeartbeats 1000000 in
theorem toBlock_any (a0 : Option Addr) (c0 : Nat) (a1 : Option Addr) (c1 : Nat) (u s : List Int) (w : World) (h0 : IRow w a0 u) (h1 : IRow w a1 s) (l0 : u.length ≤ 1048576) (l1 : s.length ≤ 1048576) :
    Calls Try.prog 40 #[.agg #[.slice a0 u.length c0, .slice a1 s.length c1]] w fun e w' => ∃ g0 g1, e = .returned (.agg #[.slice (some ⟨g0, 0, none⟩) u.length u.length, .slice (some ⟨g1, 0, none⟩) s.length s.length]) ∧ w.heap.size ≤ g0 ∧ w.heap.size ≤ g1 ∧ IBlk w' g0 u ∧ IBlk w' g1 s ∧ Below w.heap.size w w' := by
  have HC0 := hide (fun w' hb => toIntS_any a0 c0 u w' l0 (RRow.below (w' := w') h0 hb))
  have HC1 := hide (fun w' hb => toIntS_any a1 c1 s w' l1 (RRow.below (w' := w') h1 hb))
  clear h0 h1 l0 l1
  obtain ⟨m0, hm0⟩ : ∃ m, m = u.length := ⟨_, rfl⟩
  obtain ⟨m1, hm1⟩ : ∃ m, m = s.length := ⟨_, rfl⟩
  rw [← hm0, ← hm1]
  rw [← hm0] at HC0
  rw [← hm1] at HC1
  clear hm0 hm1
  obtain ⟨W1, hW1⟩ : ∃ W1, W1 = ((w.alloc (.cells #[.slice a0 m0 c0, .slice a1 m1 c1] 63)).alloc (.cells #[.slice none 0 0, .slice none 0 0] 64)).alloc (.cells #[.slice none 0 0, .slice none 0 0] 64) := ⟨_, rfl⟩
  have hB : Below w.heap.size w W1 := by rw [hW1]; exact (((Below.refl _ _).alloc (Nat.le_refl _) _).alloc (by simp) _).alloc (by simp; omega) _
  obtain ⟨X, hX⟩ : ∃ X, X = w.heap.size := ⟨_, rfl⟩
  have x0 : Bx W1 X #[.slice a0 m0 c0, .slice a1 m1 c1] 63 := by rw [hW1, hX]; exact ((Bx.new w _ _).alloc _).alloc _
  have x1 : Bx W1 (X + 1) #[.slice none 0 0, .slice none 0 0] 64 := by rw [hW1, hX]; have := (Bx.new (w.alloc (.cells #[.slice a0 m0 c0, .slice a1 m1 c1] 63)) #[.slice none 0 0, .slice none 0 0] 64).alloc (.cells #[.slice none 0 0, .slice none 0 0] 64); simpa using this
  have x2 : Bx W1 (X + 1 + 1) #[.slice none 0 0, .slice none 0 0] 64 := by rw [hW1, hX]; have := Bx.new ((w.alloc (.cells #[.slice a0 m0 c0, .slice a1 m1 c1] 63)).alloc (.cells #[.slice none 0 0, .slice none 0 0] 64)) #[.slice none 0 0, .slice none 0 0] 64; simpa using this
  have X0 := hide x0
  have X1 := hide x1
  have X2 := hide x2
  clear x0 x1 x2
  go_enter Try.func40, Try.ntmps40
  go_upto_region 2 with fail
  rw [← hW1]
  rw [← hX]
  clear hW1
  have hXw : w.heap.size ≤ X := by omega
  clear hX
  have k0 := X0.out.c
  have k1 := X2.out.c
  have f1 := X2.out.f
  go_wp2_with fail
  refine Calls.mono (HC0.out _ hB) ?_
  rintro e w1 ⟨rfl, hI0, hb⟩
  obtain ⟨S0, hS0⟩ : ∃ S0, S0 = W1.heap.size := ⟨_, rfl⟩
  rw [← hS0] at hI0 ⊢
  have hS0' : X + 1 + 1 < S0 := by rw [hS0]; exact X2.out.lt
  have hS0w : S0 < w1.heap.size := hI0.lt
  clear hS0
  have hB1 := hB.trans (hb.mono hB.size)
  have Y0 := hide (X0.out.below hb X0.out.lt)
  have Y1 := hide (X1.out.below hb X1.out.lt)
  have Y2 := hide (X2.out.below hb X2.out.lt)
  have HI0 := hide hI0
  clear hb hB HC0 X0 X1 X2 hI0 k0 k1 f1
  have k0 := Y0.out.c
  have k1 := Y2.out.c
  have f1 := Y2.out.f
  go_upto_region 3 with fail
  obtain ⟨w2, hw2⟩ : ∃ w2, w2 = w1.setCell ⟨X + 1 + 1, 0, none⟩ (.slice (some ⟨S0, 0, none⟩) m0 m0) := ⟨_, rfl⟩
  rw [← hw2]
  have Z0 := hide (Y0.out.setne (X + 1 + 1) 0 (.slice (some ⟨S0, 0, none⟩) m0 m0) (by omega))
  have Z1 := hide (Y1.out.setne (X + 1 + 1) 0 (.slice (some ⟨S0, 0, none⟩) m0 m0) (by omega))
  have Z2 := hide (Y2.out.set 0 (.slice (some ⟨S0, 0, none⟩) m0 m0))
  have ZI0 := hide (RBlk.setne HI0.out (X + 1 + 1) 0 (.slice (some ⟨S0, 0, none⟩) m0 m0) (by omega))
  have hB2 := hB1.setCell (p := ⟨X + 1 + 1, 0, none⟩) (by show w.heap.size ≤ X + 1 + 1; omega) (.slice (some ⟨S0, 0, none⟩) m0 m0)
  have hs2 : w2.heap.size = w1.heap.size := by rw [hw2]; simp
  rw [← hw2] at Z0 Z1 Z2 ZI0 hB2
  clear hw2 Y0 Y1 Y2 HI0 hB1 k0 k1 f1
  have k0 := Z0.out.c
  have k1 := Z2.out.c
  have f1 := Z2.out.f
  have HS2 := hide hs2
  clear hs2
  go_wp2_with fail
  refine Calls.mono (HC1.out _ hB2) ?_
  rintro e w3 ⟨rfl, hI1, hb⟩
  obtain ⟨S1, hS1⟩ : ∃ S1, S1 = w2.heap.size := ⟨_, rfl⟩
  rw [← hS1] at hI1 ⊢
  have hS1' : S0 < S1 := by rw [hS1, HS2.out]; exact hS0w
  clear hS1
  have hB3 := hB2.trans (hb.mono hB2.size)
  have Y1 := hide (Z1.out.below hb Z1.out.lt)
  have Y2 := hide (Z2.out.below hb Z2.out.lt)
  have HI0 := hide (RBlk.below ZI0.out hb)
  have HI1 := hide hI1
  clear hb HC1 Z0 Z1 Z2 hI1 k0 k1 f1 ZI0 HS2 hB2 hS0w
  have k1 := Y1.out.c
  have f1 := Y1.out.f
  have k2 := Y2.out.c
  have f2 := Y2.out.f
  go_wp2_with fail
  refine bodyPost_ret (v := .agg #[.slice (some ⟨S0, 0, none⟩) m0 m0, .slice (some ⟨S1, 0, none⟩) m1 m1]) (by simp [results, Try.results40, go_sem, *]) rfl ⟨S0, S1, rfl, by omega, by omega, ?_, ?_, ?_⟩
  · exact RBlk.setne (RBlk.setne (RBlk.setne HI0.out _ _ _ (by omega)) _ _ _ (by omega)) _ _ _ (by omega)
  · exact RBlk.setne (RBlk.setne (RBlk.setne HI1.out _ _ _ (by omega)) _ _ _ (by omega)) _ _ _ (by omega)
  · exact ((hB3.setCell (by simp; omega) _).setCell (by simp; omega) _).setCell (by simp; omega) _
end Go.Proofs.Ytaniiolphghhiab.W

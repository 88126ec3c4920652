/-
  Rows of tokens, wherever they lie: contracts of szTokenS, toTokenS, and of eqTokenS at equal rows. Conditions: texts no longer than Go allows; at most 1048576 tokens where a row is made.
-/
import Derived.Test.YtfbllgjnahechaaDoorTokE
import Derived.Test.YtfbllgjnahechaaDoorGood
import Derived.Laws.MakeOwn
namespace Go.Proofs.YtfbllgjnahechaaDoor.W
open Go.ChangeShapes Go.WideShapes Go.ChangeAt Go.RowKit

structure Tk where
  k : Int
  n : Int
  t : ByteArray
  a : Int

/-- A row of tokens from a place of a block on. -/
def RowAt (w : World) (b o : Nat) (l : List Tk) : Prop :=
  b < w.heap.size ∧ ∀ i (h : i < l.length), w.cell? ⟨b, o + i * 4, none⟩ = some (.int .i64 l[i].k) ∧ w.cell? ⟨b, o + i * 4 + 1, none⟩ = some (.int .i64 l[i].n) ∧ w.cell? ⟨b, o + i * 4 + 2, none⟩ = some (.string l[i].t) ∧ w.cell? ⟨b, o + i * 4 + 3, none⟩ = some (.int .i64 l[i].a)
theorem RowAt.below {w w' : World} {b o : Nat} {l : List Tk} (h : RowAt w b o l) (hb : Below w.heap.size w w') : RowAt w' b o l := by
  refine ⟨Nat.lt_of_lt_of_le h.1 hb.size, fun i hi => ?_⟩
  obtain ⟨h0, h1, h2, h3⟩ := h.2 i hi
  exact ⟨(hb.cell (p := ⟨b, o + i * 4, none⟩) h.1).trans h0, (hb.cell (p := ⟨b, o + i * 4 + 1, none⟩) h.1).trans h1, (hb.cell (p := ⟨b, o + i * 4 + 2, none⟩) h.1).trans h2, (hb.cell (p := ⟨b, o + i * 4 + 3, none⟩) h.1).trans h3⟩

/-- A slice's row of tokens: none, or a row that lies in a block. -/
def Row (w : World) (ad : Option Addr) (l : List Tk) : Prop := l = [] ∨ ∃ b o, ad = some ⟨b, o, none⟩ ∧ RowAt w b o l
theorem Row.below {w w' : World} {ad : Option Addr} {l : List Tk} (h : Row w ad l) (hb : Below w.heap.size w w') : Row w' ad l := by
  rcases h with h | ⟨b, o, h1, h2⟩
  · exact .inl h
  · exact .inr ⟨b, o, h1, h2.below hb⟩

/-- What a token's place gives a walk. -/
theorem Row.tok {w w' : World} {ad : Option Addr} {l : List Tk} (h : Row w ad l) (hb : Below w.heap.size w w') {i : Nat} (hi : i < l.length) :
    ∃ b o, ad = some ⟨b, o, none⟩ ∧ b < w.heap.size ∧ w'.cell? ⟨b, o + i * 4, none⟩ = some (.int .i64 l[i].k) ∧ w'.cell? ⟨b, o + i * 4 + 1, none⟩ = some (.int .i64 l[i].n) ∧ w'.cell? ⟨b, o + i * 4 + 2, none⟩ = some (.string l[i].t) ∧ w'.cell? ⟨b, o + i * 4 + 3, none⟩ = some (.int .i64 l[i].a) := by
  rcases h with rfl | ⟨b, o, h1, h2⟩
  · simp at hi
  · exact ⟨b, o, h1, h2.1, (h2.below hb).2 i hi⟩

def tksz : List Tk → Nat
  | [] => 0
  | x :: l => x.t.size + tksz l
theorem tksz_le {l : List Tk} {x : Tk} (h : x ∈ l) : x.t.size ≤ tksz l := by
  induction l with
  | nil => cases h
  | cons y l ih =>
    rcases List.mem_cons.1 h with rfl | h
    · simp [tksz]
    · have := ih h; simp [tksz]; omega

set_option maxHeartbeats 1000000 in
theorem szTokenS_any (ad : Option Addr) (c : Nat) (l : List Tk) (w : World) (hl : l.length ≤ maxLen) (hs : ∀ x ∈ l, x.t.size ≤ maxLen) (h : Row w ad l) :
    Calls Tryd.prog 10 #[.slice ad l.length c, .int .i64 1048576] w fun e w' => ∃ r : Int, e = .returned (.int .i64 r) ∧ (r < 0 ∨ 0 ≤ r ∧ l.length ≤ 1048576 ∧ ∀ x ∈ l, x.t.size ≤ 1048576) ∧ Below w.heap.size w w' := by
  have hl2 : (l.length : Int) ≤ 9223372036854775807 := by unfold maxLen at hl; omega
  have HR := hide h
  have HS := hide hs
  clear h hs hl
  by_cases hbig : (1048576 : Int) < l.length
  · go_enter Tryd.func10, Tryd.ntmps10
    go_wp2_with fail
    go_ret
    exact ⟨_, rfl, .inl (by omega), Below.refl _ _⟩
  · have hsm : l.length ≤ 1048576 := by omega
    go_enter Tryd.func10, Tryd.ntmps10
    go_wp2_with fail
    go_loopw [1, 5] (fun lf i w' => ∃ (j : Nat) (r : Int), j ≤ l.length ∧ 0 ≤ r ∧ r ≤ 1048576 ∧ i = .int .i64 j ∧ lf = .int .i64 r ∧ (∀ i (h : i < l.length), i < j → l[i].t.size ≤ 1048576) ∧ Below w.heap.size w w') (fun _ i _ => l.length - (intOf i).toNat)
    case atStart => exact ⟨0, _, by omega, by omega, by omega, rfl, rfl, by intros; omega, Below.refl _ _⟩
    case round =>
      obtain ⟨j, r, hj, hr0, hr1, rfl, rfl, hall, hB⟩ := hrel
      have HA := hide hall
      clear hall
      by_cases hlt : j < l.length
      · have hlt' : (j : Int) < (l.length : Int) := by omega
        obtain ⟨b, o, rfl, hb, p0, p1, p2, p3⟩ := HR.out.tok hB hlt
        have hsz := HS.out _ (List.getElem_mem hlt)
        obtain ⟨x, hx⟩ : ∃ x, x = l[j] := ⟨_, rfl⟩
        rw [← hx] at p0 p1 p2 p3 hsz
        have HX := hide hx
        clear hx
        go_wp2_with fail
        refine (szToken_any _ _ _ _ _ _ hsz hr0 hr1).mono ?_
        rintro e w1 ⟨rfl, hb1⟩
        have hB1 : Below w.heap.size w w1 := hB.trans (hb1.mono hB.size)
        clear hb1 p0 p1 p2 p3
        by_cases hrl : r < (x.t.size : Int)
        · rw [if_pos hrl]
          go_wp2_with fail
          go_ret
          exact ⟨_, rfl, .inl (by omega), hB1⟩
        · rw [if_neg hrl]
          have hrn : ¬ r - (x.t.size : Int) < 0 := by omega
          go_wp2_with fail
          refine ⟨⟨j + 1, r - x.t.size, by omega, by omega, by omega, by go_num, rfl, ?_, hB1⟩, by simp [intOf]; omega⟩
          intro i hi hij
          by_cases e : i = j
          · subst e; rw [← HX.out]; omega
          · exact HA.out i hi (by omega)
      · obtain rfl : j = l.length := by omega
        go_wp2_with fail
        go_ret
        refine ⟨_, rfl, .inr ⟨hr0, hsm, ?_⟩, hB⟩
        intro x hx
        obtain ⟨i, hi, rfl⟩ := List.getElem_of_mem hx
        exact HA.out i hi hi

/-- The first j tokens of a block that is being filled. -/
def Filled (cur : Array Value) (l : List Tk) (j : Nat) : Prop :=
  cur.size = l.length * 4 ∧ ∀ i (h : i < l.length), i < j → cur[i * 4]? = some (.int .i64 l[i].k) ∧ cur[i * 4 + 1]? = some (.int .i64 l[i].n) ∧ cur[i * 4 + 2]? = some (.string l[i].t) ∧ cur[i * 4 + 3]? = some (.int .i64 l[i].a)
theorem Filled.step {cur : Array Value} {l : List Tk} {j : Nat} (h : Filled cur l j) (hj : j < l.length) :
    Filled ((((cur.setIfInBounds (j * 4) (.int .i64 l[j].k)).setIfInBounds (j * 4 + 1) (.int .i64 l[j].n)).setIfInBounds (j * 4 + 2) (.string l[j].t)).setIfInBounds (j * 4 + 3) (.int .i64 l[j].a)) l (j + 1) := by
  have hs := h.1
  refine ⟨by simp [hs], fun i hi hij => ?_⟩
  simp only [Array.getElem?_setIfInBounds, Array.size_setIfInBounds]
  by_cases e : i = j
  · subst e
    refine ⟨?_, ?_, ?_, ?_⟩
    · rw [if_neg (by omega), if_neg (by omega), if_neg (by omega), if_pos rfl, if_pos (by omega)]
    · rw [if_neg (by omega), if_neg (by omega), if_pos rfl, if_pos (by omega)]
    · rw [if_neg (by omega), if_pos rfl, if_pos (by omega)]
    · rw [if_pos rfl, if_pos (by omega)]
  · obtain ⟨h0, h1, h2, h3⟩ := h.2 i hi (by omega)
    refine ⟨?_, ?_, ?_, ?_⟩
    · rw [if_neg (by omega), if_neg (by omega), if_neg (by omega), if_neg (by omega)]; exact h0
    · rw [if_neg (by omega), if_neg (by omega), if_neg (by omega), if_neg (by omega)]; exact h1
    · rw [if_neg (by omega), if_neg (by omega), if_neg (by omega), if_neg (by omega)]; exact h2
    · rw [if_neg (by omega), if_neg (by omega), if_neg (by omega), if_neg (by omega)]; exact h3

theorem mk_toks (n : Nat) (hn : n ≤ 1048576) (w : World) :
    (Instr.makeSlice 33 (.int .i64 (n : Int)) (.int .i64 (n : Int))).run Tryd.prog w = .ok (.slice (some ⟨w.heap.size, 0, none⟩) n n) (w.alloc (.cells (madeCells #[.int .i64 0, .int .i64 0, .string ⟨#[]⟩, .int .i64 0] (n * 4)) 27)) := by
  obtain ⟨i, hi, hzz⟩ := Option.map_eq_some_iff.1 infoTok
  simp only [Prod.mk.injEq] at hzz
  obtain ⟨hz, hs, hb⟩ := hzz
  have := run_make (P := Tryd.prog) w 33 27 i _ Tryd.underlying33 hi hz .i64 .i64 n n (by omega) (Int.le_refl _) (by rw [hb]; omega) (by omega)
  rw [hs, show (Value.agg #[.int .i64 0, .int .i64 0, .string ⟨#[]⟩, .int .i64 0]).cells = #[.int .i64 0, .int .i64 0, .string ⟨#[]⟩, .int .i64 0] from by simp [Value.cells]] at this
  simpa using this

set_option maxHeartbeats 2000000 in
theorem toTokenS_any (ad : Option Addr) (c : Nat) (l : List Tk) (w : World) (hl : l.length ≤ 1048576) (h : Row w ad l) :
    Calls Tryd.prog 12 #[.slice ad l.length c] w fun e w' => e = .returned (.slice (some ⟨w.heap.size, 0, none⟩) l.length l.length) ∧ Row w' (some ⟨w.heap.size, 0, none⟩) l ∧ Below w.heap.size w w' := by
  have HR := hide h
  clear h
  have hmk := mk_toks l.length hl
  go_enter Tryd.func12, Tryd.ntmps12
  go_wp2_with fail
  go_loopw [4] (fun i w' => ∃ (j : Nat) (cur : Array Value), j ≤ l.length ∧ i = .int .i64 j ∧ w'.heap[w.heap.size]? = some (.cells cur 27 (0, 0)) ∧ Filled cur l j ∧ Below w.heap.size w w') (fun i _ => l.length - (intOf i).toNat)
  case atStart =>
    clear hmk
    exact ⟨0, _, by omega, rfl, heap_alloc_new w _, ⟨by simp [madeCells], by intros; omega⟩, (Below.refl _ _).alloc (Nat.le_refl _) _⟩
  case round =>
    clear hmk
    obtain ⟨j, cur, hj, rfl, hh, hF, hB⟩ := hrel
    have HF := hide hF
    have HH := hide hh
    clear hF hh
    by_cases hlt : j < l.length
    · have hlt' : (j : Int) < (l.length : Int) := by omega
      have hj0 : (0 : Int) ≤ (j : Int) := by omega
      obtain ⟨b, o, rfl, hb, p0, p1, p2, p3⟩ := HR.out.tok hB hlt
      have HFS := hide (HF.out.step hlt)
      obtain ⟨x, hx⟩ : ∃ x, x = l[j] := ⟨_, rfl⟩
      rw [← hx] at p0 p1 p2 p3 HFS
      clear hx
      go_wp2_with fail
      refine (toToken_any _ _ _ _ _).mono ?_
      rintro e w1 ⟨rfl, hb1⟩
      have hB1 : Below w.heap.size w w1 := hB.trans (hb1.mono hB.size)
      have hh1 : w1.heap[w.heap.size]? = some (.cells cur 27 (0, 0)) := (hb1.block _ (Array.getElem?_eq_some_iff.1 HH.out).1).trans HH.out
      have fz : ∀ i, w1.frozen? ⟨w.heap.size, i, none⟩ = false := fun i => unfrozen_of_blk hh1 i
      have cs : ∀ r, r < 4 → ∃ x, w1.cell? ⟨w.heap.size, j * 4 + r, none⟩ = some x := fun r hr => by
        rw [cell_of_blk hh1, Array.getElem?_eq_getElem (by have := HF.out.1; omega)]; exact ⟨_, rfl⟩
      obtain ⟨y0, hy0⟩ := cs 0 (by omega)
      obtain ⟨y1, hy1⟩ := cs 1 (by omega)
      obtain ⟨y2, hy2⟩ := cs 2 (by omega)
      obtain ⟨y3, hy3⟩ := cs 3 (by omega)
      rw [Nat.add_zero] at hy0
      have HH1 := hide hh1
      clear cs hh1 hb1 p0 p1 p2 p3
      go_wp2_with fail
      have hk := blk_setCell (i := j * 4 + 3) (blk_setCell (i := j * 4 + 2) (blk_setCell (i := j * 4 + 1) (blk_setCell (i := j * 4) HH1.out (.int .i64 x.k)) (.int .i64 x.n)) (.string x.t)) (.int .i64 x.a)
      exact ⟨⟨j + 1, _, by omega, by go_num, hk, HFS.out, (((hB1.setCell (p := ⟨w.heap.size, j * 4, none⟩) (Nat.le_refl _) _).setCell (p := ⟨w.heap.size, j * 4 + 1, none⟩) (Nat.le_refl _) _).setCell (p := ⟨w.heap.size, j * 4 + 2, none⟩) (Nat.le_refl _) _).setCell (p := ⟨w.heap.size, j * 4 + 3, none⟩) (Nat.le_refl _) _⟩, by simp [intOf]; omega⟩
    · obtain rfl : j = l.length := by omega
      go_wp2_with fail
      go_ret
      refine ⟨rfl, .inr ⟨_, 0, rfl, ?_, fun i hi => ?_⟩, hB⟩
      · exact (Array.getElem?_eq_some_iff.1 HH.out).1
      · obtain ⟨h0, h1, h2, h3⟩ := HF.out.2 i hi hi
        refine ⟨?_, ?_, ?_, ?_⟩ <;> (rw [cell_of_blk HH.out, Nat.zero_add]; assumption)

set_option maxHeartbeats 1000000 in
theorem eqTokenS_row (a1 a2 : Option Addr) (c1 c2 : Nat) (l : List Tk) (w : World) (hl : l.length ≤ 1048576) (h1 : Row w a1 l) (h2 : Row w a2 l) :
    Calls Tryd.prog 14 #[.slice a1 l.length c1, .slice a2 l.length c2] w fun e w' => e = .returned (.bool true) ∧ Below w.heap.size w w' := by
  have H1 := hide h1
  have H2 := hide h2
  clear h1 h2
  go_enter Tryd.func14, Tryd.ntmps14
  go_wp2
  go_loopw [5] (fun i w' => ∃ j : Nat, j ≤ l.length ∧ i = .int .i64 j ∧ Below w.heap.size w w') (fun i _ => l.length - (intOf i).toNat)
  case atStart => exact ⟨0, by omega, rfl, Below.refl _ _⟩
  case round =>
    obtain ⟨j, hj, rfl, hB⟩ := hrel
    by_cases hlt : j < l.length
    · have hlt' : (j : Int) < (l.length : Int) := by omega
      obtain ⟨b, o, rfl, hb, p0, p1, p2, p3⟩ := H1.out.tok hB hlt
      obtain ⟨b', o', rfl, hb', q0, q1, q2, q3⟩ := H2.out.tok hB hlt
      obtain ⟨x, hx⟩ : ∃ x, x = l[j] := ⟨_, rfl⟩
      rw [← hx] at p0 p1 p2 p3 q0 q1 q2 q3
      clear hx H1 H2
      go_wp2_with fail
      go_region_with (go_at_call 28; refine (eqToken_same _ _ _ _ _).mono ?_; rintro e w1 ⟨rfl, hb1⟩)
      all_goals
        have hB1 : Below w.heap.size w w1 := hB.trans ((show Below wr.heap.size wr w1 from ⟨hb1.os, hb1.tape, hb1.output, hb1.size, hb1.block⟩).mono hB.size)
        clear p0 p1 p2 p3 q0 q1 q2 q3 hb1
        go_wp2_with fail
        exact ⟨⟨j + 1, by omega, by go_num, hB1⟩, by simp [intOf]; omega⟩
    · go_wp2_with fail
      go_ret
      exact ⟨rfl, hB⟩
end Go.Proofs.YtfbllgjnahechaaDoor.W

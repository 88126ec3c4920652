/-
  Rows of parts of expressions, wherever they lie: contracts of szExS, toExS, and of eqExS at equal rows. Conditions: texts no longer than Go allows; at most 1048576 parts where a row is made.
-/
import Derived.Test.YtmnicilgenpnfaaDoorStr
import Derived.Laws.MakeOwn
namespace Go.Proofs.YtmnicilgenpnfaaDoor.W
open Go.ChangeShapes Go.WideShapes Go.ChangeAt Go.RowKit

structure Xx where
  k : Int
  n : Int
  t : ByteArray

/-- A row of tokens from a place of a block on. -/
def RowAt (w : World) (b o : Nat) (l : List Xx) : Prop :=
  b < w.heap.size ∧ ∀ i (h : i < l.length), w.cell? ⟨b, o + i * 3, none⟩ = some (.int .i64 l[i].k) ∧ w.cell? ⟨b, o + i * 3 + 1, none⟩ = some (.int .i64 l[i].n) ∧ w.cell? ⟨b, o + i * 3 + 2, none⟩ = some (.string l[i].t)
theorem RowAt.below {w w' : World} {b o : Nat} {l : List Xx} (h : RowAt w b o l) (hb : Below w.heap.size w w') : RowAt w' b o l := by
  refine ⟨Nat.lt_of_lt_of_le h.1 hb.size, fun i hi => ?_⟩
  obtain ⟨h0, h1, h2⟩ := h.2 i hi
  exact ⟨(hb.cell (p := ⟨b, o + i * 3, none⟩) h.1).trans h0, (hb.cell (p := ⟨b, o + i * 3 + 1, none⟩) h.1).trans h1, (hb.cell (p := ⟨b, o + i * 3 + 2, none⟩) h.1).trans h2⟩

/-- A slice's row of tokens: none, or a row that lies in a block. -/
def Row (w : World) (ad : Option Addr) (l : List Xx) : Prop := l = [] ∨ ∃ b o, ad = some ⟨b, o, none⟩ ∧ RowAt w b o l
theorem Row.below {w w' : World} {ad : Option Addr} {l : List Xx} (h : Row w ad l) (hb : Below w.heap.size w w') : Row w' ad l := by
  rcases h with h | ⟨b, o, h1, h2⟩
  · exact .inl h
  · exact .inr ⟨b, o, h1, h2.below hb⟩

/-- What a token's place gives a walk. -/
theorem Row.tok {w w' : World} {ad : Option Addr} {l : List Xx} (h : Row w ad l) (hb : Below w.heap.size w w') {i : Nat} (hi : i < l.length) :
    ∃ b o, ad = some ⟨b, o, none⟩ ∧ b < w.heap.size ∧ w'.cell? ⟨b, o + i * 3, none⟩ = some (.int .i64 l[i].k) ∧ w'.cell? ⟨b, o + i * 3 + 1, none⟩ = some (.int .i64 l[i].n) ∧ w'.cell? ⟨b, o + i * 3 + 2, none⟩ = some (.string l[i].t) := by
  rcases h with rfl | ⟨b, o, h1, h2⟩
  · simp at hi
  · exact ⟨b, o, h1, h2.1, (h2.below hb).2 i hi⟩

set_option maxHeartbeats 400000 in
theorem eqEx_same (k n : Int) (t : ByteArray) (w : World) :
    Calls Tryd.prog 15 #[.agg #[.int .i64 k, .int .i64 n, .string t], .agg #[.int .i64 k, .int .i64 n, .string t]] w fun e w' => e = .returned (.bool true) ∧ Below w.heap.size w w' := by
  go_enter Tryd.func15, Tryd.ntmps15
  go_wp2
  go_ret
  exact ⟨rfl, ((Below.refl _ _).alloc (Nat.le_refl _) _).alloc (by simp) _⟩

def xxsz : List Xx → Nat
  | [] => 0
  | x :: l => x.t.size + xxsz l
theorem xxsz_le {l : List Xx} {x : Xx} (h : x ∈ l) : x.t.size ≤ xxsz l := by
  induction l with
  | nil => cases h
  | cons y l ih =>
    rcases List.mem_cons.1 h with rfl | h
    · simp [xxsz]
    · have := ih h; simp [xxsz]; omega

/-- The first j tokens of a block that is being filled. -/
def Filled (cur : Array Value) (l : List Xx) (j : Nat) : Prop :=
  cur.size = l.length * 3 ∧ ∀ i (h : i < l.length), i < j → cur[i * 3]? = some (.int .i64 l[i].k) ∧ cur[i * 3 + 1]? = some (.int .i64 l[i].n) ∧ cur[i * 3 + 2]? = some (.string l[i].t)
theorem Filled.step {cur : Array Value} {l : List Xx} {j : Nat} (h : Filled cur l j) (hj : j < l.length) :
    Filled (((cur.setIfInBounds (j * 3) (.int .i64 l[j].k)).setIfInBounds (j * 3 + 1) (.int .i64 l[j].n)).setIfInBounds (j * 3 + 2) (.string l[j].t)) l (j + 1) := by
  have hs := h.1
  refine ⟨by simp [hs], fun i hi hij => ?_⟩
  simp only [Array.getElem?_setIfInBounds, Array.size_setIfInBounds]
  by_cases e : i = j
  · subst e
    refine ⟨?_, ?_, ?_⟩
    · rw [if_neg (by omega), if_neg (by omega), if_pos rfl, if_pos (by omega)]
    · rw [if_neg (by omega), if_pos rfl, if_pos (by omega)]
    · rw [if_pos rfl, if_pos (by omega)]
  · obtain ⟨h0, h1, h2⟩ := h.2 i hi (by omega)
    refine ⟨?_, ?_, ?_⟩
    · rw [if_neg (by omega), if_neg (by omega), if_neg (by omega)]; exact h0
    · rw [if_neg (by omega), if_neg (by omega), if_neg (by omega)]; exact h1
    · rw [if_neg (by omega), if_neg (by omega), if_neg (by omega)]; exact h2

theorem infoEx : (Tryd.prog.info? 47).map (fun i => (i.zero, i.size, i.bytes)) = some (some (.agg #[.int .i64 0, .int .i64 0, .string ⟨#[]⟩]), 3, 32) := by kernel_rfl
theorem mk_exs (n : Nat) (hn : n ≤ 1048576) (w : World) :
    (Instr.makeSlice 22 (.int .i64 (n : Int)) (.int .i64 (n : Int))).run Tryd.prog w = .ok (.slice (some ⟨w.heap.size, 0, none⟩) n n) (w.alloc (.cells (madeCells #[.int .i64 0, .int .i64 0, .string ⟨#[]⟩] (n * 3)) 47)) := by
  obtain ⟨i, hi, hzz⟩ := Option.map_eq_some_iff.1 infoEx
  simp only [Prod.mk.injEq] at hzz
  obtain ⟨hz, hs, hb⟩ := hzz
  have := run_make (P := Tryd.prog) w 22 47 i _ Tryd.underlying22 hi hz .i64 .i64 n n (by omega) (Int.le_refl _) (by rw [hb]; omega) (by omega)
  rw [hs, show (Value.agg #[.int .i64 0, .int .i64 0, .string ⟨#[]⟩]).cells = #[.int .i64 0, .int .i64 0, .string ⟨#[]⟩] from by simp [Value.cells]] at this
  simpa using this

set_option maxHeartbeats 1000000 in
theorem eqExS_row (a1 a2 : Option Addr) (c1 c2 : Nat) (l : List Xx) (w : World) (hl : l.length ≤ 1048576) (h1 : Row w a1 l) (h2 : Row w a2 l) :
    Calls Tryd.prog 6 #[.slice a1 l.length c1, .slice a2 l.length c2] w fun e w' => e = .returned (.bool true) ∧ Below w.heap.size w w' := by
  have H1 := hide h1
  have H2 := hide h2
  clear h1 h2
  go_enter Tryd.func6, Tryd.ntmps6
  go_wp2
  go_loopw [5] (fun i w' => ∃ j : Nat, j ≤ l.length ∧ i = .int .i64 j ∧ Below w.heap.size w w') (fun i _ => l.length - (intOf i).toNat)
  case atStart => exact ⟨0, by omega, rfl, Below.refl _ _⟩
  case round =>
    obtain ⟨j, hj, rfl, hB⟩ := hrel
    by_cases hlt : j < l.length
    · have hlt' : (j : Int) < (l.length : Int) := by omega
      obtain ⟨b, o, rfl, hb, p0, p1, p2⟩ := H1.out.tok hB hlt
      obtain ⟨b', o', rfl, hb', q0, q1, q2⟩ := H2.out.tok hB hlt
      obtain ⟨x, hx⟩ : ∃ x, x = l[j] := ⟨_, rfl⟩
      rw [← hx] at p0 p1 p2 q0 q1 q2
      clear hx H1 H2
      go_wp2_with fail
      go_region_with (go_at_call 15; refine (eqEx_same _ _ _ _).mono ?_; rintro e w1 ⟨rfl, hb1⟩)
      all_goals
        have hB1 : Below w.heap.size w w1 := hB.trans ((show Below wr.heap.size wr w1 from ⟨hb1.os, hb1.tape, hb1.output, hb1.size, hb1.block⟩).mono hB.size)
        clear p0 p1 p2 q0 q1 q2 hb1
        go_wp2_with fail
        exact ⟨⟨j + 1, by omega, by go_num, hB1⟩, by simp [intOf]; omega⟩
    · go_wp2_with fail
      go_ret
      exact ⟨rfl, hB⟩
end Go.Proofs.YtmnicilgenpnfaaDoor.W

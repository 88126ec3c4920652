/-
  Rows of tokens, wherever they lie: contracts of szTokenS, toTokenS, and of eqTokenS at equal rows. Conditions: texts no longer than Go allows; at most 1048576 tokens where a row is made.
-/
import Derived.Test.YtjffignbiabmaaaDoorTokE
import Derived.Test.YtjffignbiabmaaaDoorTokS
import Derived.Test.YtjffignbiabmaaaDoorGood
import Derived.Laws.MakeOwn
namespace Go.Proofs.YtjffignbiabmaaaDoor.W.T
open Go.ChangeShapes Go.WideShapes Go.ChangeAt Go.RowKit

def tksz : List Tk → Nat
  | [] => 0
  | x :: l => x.t.size + tksz l
theorem tksz_le {l : List Tk} {x : Tk} (h : x ∈ l) : x.t.size ≤ tksz l := by
  induction l with
  | nil => cases h
  | cons y l ih =>
    rcases List.mem_cons.1 h with rfl | h
    · simp [tksz]
    · have := ih h; simp [tksz]; omega

/-- The first j tokens of a block that is being filled. -/
def Filled (cur : Array Value) (l : List Tk) (j : Nat) : Prop :=
  cur.size = l.length * 4 ∧ ∀ i (h : i < l.length), i < j → cur[i * 4]? = some (.int .i64 l[i].k) ∧ cur[i * 4 + 1]? = some (.int .i64 l[i].n) ∧ cur[i * 4 + 2]? = some (.string l[i].t) ∧ cur[i * 4 + 3]? = some (.int .i64 l[i].a)
theorem Filled.step {cur : Array Value} {l : List Tk} {j : Nat} (h : Filled cur l j) (hj : j < l.length) :
    Filled ((((cur.setIfInBounds (j * 4) (.int .i64 l[j].k)).setIfInBounds (j * 4 + 1) (.int .i64 l[j].n)).setIfInBounds (j * 4 + 2) (.string l[j].t)).setIfInBounds (j * 4 + 3) (.int .i64 l[j].a)) l (j + 1) := by
  have hs := h.1
  refine ⟨by simp [hs], fun i hi hij => ?_⟩
  simp only [Array.getElem?_setIfInBounds, Array.size_setIfInBounds]
  by_cases e : i = j
  · subst e
    refine ⟨?_, ?_, ?_, ?_⟩
    · rw [if_neg (by omega), if_neg (by omega), if_neg (by omega), if_pos rfl, if_pos (by omega)]
    · rw [if_neg (by omega), if_neg (by omega), if_pos rfl, if_pos (by omega)]
    · rw [if_neg (by omega), if_pos rfl, if_pos (by omega)]
    · rw [if_pos rfl, if_pos (by omega)]
  · obtain ⟨h0, h1, h2, h3⟩ := h.2 i hi (by omega)
    refine ⟨?_, ?_, ?_, ?_⟩
    · rw [if_neg (by omega), if_neg (by omega), if_neg (by omega), if_neg (by omega)]; exact h0
    · rw [if_neg (by omega), if_neg (by omega), if_neg (by omega), if_neg (by omega)]; exact h1
    · rw [if_neg (by omega), if_neg (by omega), if_neg (by omega), if_neg (by omega)]; exact h2
    · rw [if_neg (by omega), if_neg (by omega), if_neg (by omega), if_neg (by omega)]; exact h3

theorem mk_toks (n : Nat) (hn : n ≤ 1048576) (w : World) :
    (Instr.makeSlice 71 (.int .i64 (n : Int)) (.int .i64 (n : Int))).run Tryd.prog w = .ok (.slice (some ⟨w.heap.size, 0, none⟩) n n) (w.alloc (.cells (madeCells #[.int .i64 0, .int .i64 0, .string ⟨#[]⟩, .int .i64 0] (n * 4)) 87)) := by
  obtain ⟨i, hi, hzz⟩ := Option.map_eq_some_iff.1 infoTok
  simp only [Prod.mk.injEq] at hzz
  obtain ⟨hz, hs, hb⟩ := hzz
  have := run_make (P := Tryd.prog) w 71 87 i _ Tryd.underlying71 hi hz .i64 .i64 n n (by omega) (Int.le_refl _) (by rw [hb]; omega) (by omega)
  rw [hs, show (Value.agg #[.int .i64 0, .int .i64 0, .string ⟨#[]⟩, .int .i64 0]).cells = #[.int .i64 0, .int .i64 0, .string ⟨#[]⟩, .int .i64 0] from by simp [Value.cells]] at this
  simpa using this
end Go.Proofs.YtjffignbiabmaaaDoor.W.T

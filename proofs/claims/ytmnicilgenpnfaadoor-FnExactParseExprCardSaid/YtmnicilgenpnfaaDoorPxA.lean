/-
  The program's reader of tokens in memory; contracts of isNext, isNextSign, goIn, signBetween. Conditions: at most 1000 tokens; the table of signs as its text lays it.
-/
import Derived.Test.YtmnicilgenpnfaaDoorPxM
import Derived.Test.YtmnicilgenpnfaaDoorDoorS
import Derived.Test.YtmnicilgenpnfaaDoorTokS
import Derived.Deep.RegionHeld3
import Derived.BigQuiet
namespace Go.Proofs.YtmnicilgenpnfaaDoor.W
open Go.ChangeShapes Go.WideShapes Go.ChangeAt Go.RowKit
set_option linter.unusedVariables false
set_option linter.unusedSimpArgs false

/-- Block g holds just these cells. -/
def Bk (w : World) (g : Nat) (cs : Array Value) (T : TypeId) : Prop := w.heap[g]? = some (.cells cs T (0, 0))
theorem Bk.c {w : World} {g : Nat} {cs : Array Value} {T : TypeId} (h : Bk w g cs T) : ∀ i, w.cell? ⟨g, i, none⟩ = cs[i]? := fun i => cell_of_blk h i
theorem Bk.f {w : World} {g : Nat} {cs : Array Value} {T : TypeId} (h : Bk w g cs T) : ∀ i, w.frozen? ⟨g, i, none⟩ = false := fun i => unfrozen_of_blk h i
theorem Bk.lt {w : World} {g : Nat} {cs : Array Value} {T : TypeId} (h : Bk w g cs T) : g < w.heap.size := (Array.getElem?_eq_some_iff.1 h).1
theorem Bk.set {w : World} {g : Nat} {cs : Array Value} {T : TypeId} (h : Bk w g cs T) (i : Nat) (v : Value) : Bk (w.setCell ⟨g, i, none⟩ v) g (cs.setIfInBounds i v) T := blk_setCell h v
theorem Bk.below {w w' : World} {g : Nat} {cs : Array Value} {T : TypeId} (h : Bk w g cs T) (hb : Below w.heap.size w w') : Bk w' g cs T := (hb.block g h.lt).trans h
theorem Bk.grown {w w' : World} {g : Nat} {cs : Array Value} {T : TypeId} {r : Option Nat} (h : Bk w g cs T) (hg : w.grownBy w' r) (hn : r ≠ some g) : Bk w' g cs T := (hg.block g h.lt hn.symm).trans h
theorem gr_refl (a : World) (r : Option Nat) : a.grownBy a r := ⟨rfl, rfl, rfl, Nat.le_refl _, fun _ _ _ => rfl⟩
theorem gr_trans {a b c : World} {r : Option Nat} (h1 : a.grownBy b r) (h2 : b.grownBy c r) : a.grownBy c r := ⟨h2.os.trans h1.os, h2.tape.trans h1.tape, h2.output.trans h1.output, Nat.le_trans h1.size h2.size, fun k hk hn => (h2.block k (Nat.lt_of_lt_of_le hk h1.size) hn).trans (h1.block k hk hn)⟩
theorem gr_below {a b : World} (r : Option Nat) (h : Below a.heap.size a b) : a.grownBy b r := ⟨h.os, h.tape, h.output, h.size, fun k hk _ => h.block k hk⟩
theorem gr_set {a b : World} {g : Nat} (h : a.grownBy b (some g)) (i : Nat) (v : Value) : a.grownBy (b.setCell ⟨g, i, none⟩ v) (some g) :=
  ⟨h.os, h.tape, h.output, by simpa [World.setCell] using h.size, fun k hk hn => (Below.heap_setCell _ _ _ _ (fun e => hn (by rw [e]))).trans (h.block k hk hn)⟩
/-- The tokens outlive what the reader does. -/
theorem T.Row.grown {w w' : World} {ta : Option Addr} {l : List T.Tk} {g : Nat} (h : T.Row w ta l) (hg : w.grownBy w' (some g)) (hn : ∀ b o, ta = some ⟨b, o, none⟩ → b ≠ g) : T.Row w' ta l := by
  rcases h with h | ⟨b, o, h1, h2, h3⟩
  · exact .inl h
  · have hb := hn b o h1
    have hc : ∀ i, w'.cell? ⟨b, i, none⟩ = w.cell? ⟨b, i, none⟩ := fun i => World.cell?_of_block (hg.block b h2 (fun e => hb (by simpa using e)))
    refine .inr ⟨b, o, h1, Nat.lt_of_lt_of_le h2 hg.size, fun i hi => ?_⟩
    obtain ⟨c0, c1, c2, c3⟩ := h3 i hi
    exact ⟨(hc _).trans c0, (hc _).trans c1, (hc _).trans c2, (hc _).trans c3⟩
theorem belDrewN {w : World} (q : Nat) : Below w.heap.size w (w.drewN q) := ⟨rfl, rfl, rfl, Nat.le_refl _, fun _ _ => rfl⟩

/-- The next token's kind is this. -/
def kdAt (l : List T.Tk) (p : Nat) (k : Int) : Bool := match l[p]? with
  | none => false
  | some x => decide (x.k = k)

set_option maxRecDepth 20000 in
set_option maxHeartbeats 4000000 in
theorem isNext_any (g : Nat) (ta : Option Addr) (tc : Nat) (l : List T.Tk) (p d : Nat) (tb : Bool) (k : Int) (w : World) (hl : l.length ≤ 1000) (hp : p ≤ l.length) (hb : Bk w g #[.slice ta l.length tc, .int .i64 (p : Int), .int .i64 (d : Int), .bool tb] 40) (hr : T.Row w ta l) :
    Calls Tryd.prog 34 #[.pointer (some ⟨g, 0, none⟩), .int .i64 k] w fun e w' => e = .returned (.bool (kdAt l p k)) ∧ Below w.heap.size w w' := by
  have c0 := (hb.c 0).trans rfl
  have c1 := (hb.c 1).trans rfl
  have hp0 : (0 : Int) ≤ (p : Int) := by omega
  by_cases hlt : p < l.length
  · have hlt' : (p : Int) < (l.length : Int) := by omega
    obtain ⟨b, o, rfl, hbl, q0, -, -, -⟩ := hr.tok (Below.refl _ _) hlt
    have hk : kdAt l p k = decide (l[p].k = k) := by unfold kdAt; rw [List.getElem?_eq_getElem hlt]
    rw [hk]
    obtain ⟨x, hx⟩ : ∃ x, x = l[p].k := ⟨_, rfl⟩
    rw [← hx] at q0 ⊢
    clear hx hk hr hb
    by_cases hxk : x = k
    · subst hxk
      rw [decide_eq_true rfl]
      go_enter Tryd.func34, Tryd.ntmps34
      go_wp2_with fail
      go_quiet (fail)
      go_wp2_with fail
      go_ret
      exact ⟨rfl, belDrewN _⟩
    · have hxb : (x == k) = false := by simpa using hxk
      rw [decide_eq_false hxk]
      go_enter Tryd.func34, Tryd.ntmps34
      go_wp2_with fail
      go_quiet (fail)
      go_wp2_with fail
      go_ret
      exact ⟨rfl, belDrewN _⟩
  · have hlt' : ¬ (p : Int) < (l.length : Int) := by omega
    have hk : kdAt l p k = false := by unfold kdAt; rw [List.getElem?_eq_none (by omega)]
    rw [hk]
    clear hk hr hb
    go_enter Tryd.func34, Tryd.ntmps34
    go_wp2_with fail
    go_quiet (fail)
    go_wp2_with fail
    go_ret
    exact ⟨rfl, belDrewN _⟩
end Go.Proofs.YtmnicilgenpnfaaDoor.W

/-
  How the specification's reader ends; its function one where nothing can stand: at the end, at a sign that is none of its own, too deep. Conditions: at most 1000 tokens.
-/
import Derived.Test.YtmnicilgenpnfaaDoorPsB
import Derived.Test.YtmnicilgenpnfaaDoorTree
namespace Go.Proofs.YtmnicilgenpnfaaDoor.W
open Go.ChangeShapes Go.WideShapes Go.ChangeAt Go.RowKit
set_option linter.unusedVariables false
set_option linter.unusedSimpArgs false

/-- A part with its parts behind it, as a value. -/
def l2v (x : Xx) (s : Value) : Value := .agg #[.int .i64 x.k, .int .i64 x.n, .string x.t, s]
/-- How a reader of the specification ends. -/
def SO (w : World) (g : Nat) (ta : Option Addr) (tc en : Nat) (l : List T.Tk) (z : Rz) (e : Ending) (w' : World) : Prop := match z with
  | .ok E q => (∃ s, e = .returned (l2v E.head s) ∧ TrK w' w.heap.size E s) ∧ Bk w' g (spC ta l.length tc q en (-1) false) 33 ∧ w.grownBy w' (some g)
  | .bad q t => (∃ x a n c, e = .returned (l2v x (.slice a n c))) ∧ (∃ q', Bk w' g (spC ta l.length tc q' en (plc l en q) t) 33) ∧ w.grownBy w' (some g)
/-- What the reader leans on. -/
structure EnvS (w : World) (g : Nat) (ta : Option Addr) (l : List T.Tk) : Prop where
  row : T.Row w ta l
  apart : ∀ b o, ta = some ⟨b, o, none⟩ → b ≠ g
  pos : ∀ x ∈ l, 0 ≤ x.a
theorem EnvS.grown {w w' : World} {g : Nat} {ta : Option Addr} {l : List T.Tk} (h : EnvS w g ta l) (hg : w.grownBy w' (some g)) : EnvS w' g ta l := ⟨h.row.grown hg h.apart, h.apart, h.pos⟩
theorem EnvS.below {w w' : World} {g : Nat} {ta : Option Addr} {l : List T.Tk} (h : EnvS w g ta l) (hb : Below w.heap.size w w') : EnvS w' g ta l := ⟨h.row.below hb, h.apart, h.pos⟩
theorem plc_pos {l : List T.Tk} {en p : Nat} (h : ∀ x ∈ l, 0 ≤ x.a) : 0 ≤ plc l en p := by
  unfold plc
  split
  · rename_i x hx; exact h x (List.mem_of_getElem? hx)
  · omega
/-- A block of one's own written, seen from a world ahead. -/
theorem gr_own {a b : World} {g k i : Nat} {v : Value} (h : a.grownBy b (some g)) (hk : a.heap.size ≤ k) : a.grownBy (b.setCell ⟨k, i, none⟩ v) (some g) :=
  ⟨h.os, h.tape, h.output, by simpa [World.setCell] using h.size, fun j hj hn => (Below.heap_setCell _ _ _ _ (show j ≠ k by omega)).trans (h.block j hj hn)⟩
theorem Bk.other {w : World} {g k i : Nat} {cs : Array Value} {T : TypeId} {v : Value} (h : Bk w g cs T) (hk : g ≠ k) : Bk (w.setCell ⟨k, i, none⟩ v) g cs T := (Below.heap_setCell _ _ _ _ hk).trans h
theorem gr_alloc {a b : World} {g : Nat} {o : Obj} (h : a.grownBy b (some g)) : a.grownBy (b.alloc o) (some g) := gr_trans h (gr_below (some g) ((Below.refl _ _).alloc (Nat.le_refl _) _))
theorem Bk.alloc {w : World} {g : Nat} {cs : Array Value} {T : TypeId} {o : Obj} (h : Bk w g cs T) : Bk (w.alloc o) g cs T := h.below ((Below.refl _ _).alloc (Nat.le_refl _) _)

set_option maxRecDepth 20000 in
set_option maxHeartbeats 4000000 in
/-- Too deep. -/
theorem one_deep (g : Nat) (ta : Option Addr) (tc en : Nat) (l : List T.Tk) (p : Nat) (w : World) (hl : l.length ≤ 1000) (hp : p ≤ l.length) (he : EnvS w g ta l) (hb : Bk w g (spC ta l.length tc p en (-1) false) 33) :
    Calls Tryd.prog 18 #[.pointer (some ⟨g, 0, none⟩), .int .i64 101] w (SO w g ta tc en l (.bad p true)) := by
  unfold SO
  simp only
  have hgl := hb.lt
  have HB := hide hb
  have HE := hide he
  clear hb he
  have hB := plc_pos (en := en) (p := p) HE.out.pos
  obtain ⟨B, hBe⟩ : ∃ B, B = plc l en p := ⟨_, rfl⟩
  rw [← hBe] at hB ⊢
  have HBe := hide hBe
  clear hBe
  have c := HB.out.c
  have f := HB.out.f
  unfold spC at c
  go_enter Tryd.func18, Tryd.ntmps18
  go_upto_region 3 with fail
  obtain ⟨V, hV⟩ : ∃ V, V = w.setCell ⟨g, 4, none⟩ (.bool true) := ⟨_, rfl⟩
  rw [← hV]
  have hVs : V.heap.size = w.heap.size := by rw [hV]; simp [World.setCell]
  have HGV : Hid (w.grownBy V (some g)) := hide (by rw [hV]; exact gr_set (gr_refl w _) _ _)
  have HBV : Hid (Bk V g (spC ta l.length tc p en (-1) true) 33) := hide (by
    have hz := HB.out.set 4 (.bool true)
    simp only [spC, List.setIfInBounds_toArray, List.set_cons_zero, List.set_cons_succ] at hz
    rw [hV]; exact hz)
  obtain ⟨W, hW⟩ : ∃ W, W = V.alloc (.cells #[.int .i64 0, .int .i64 0, .string ⟨#[]⟩, .slice none 0 0] 36) := ⟨_, rfl⟩
  have HGW : Hid (w.grownBy W (some g)) := hide (by rw [hW]; exact gr_alloc HGV.out)
  have HBW : Hid (Bk W g (spC ta l.length tc p en (-1) true) 33) := hide (by rw [hW]; exact HBV.out.alloc)
  have HRW : Hid (Bk W w.heap.size #[.int .i64 0, .int .i64 0, .string ⟨#[]⟩, .slice none 0 0] 36) := hide (by rw [hW, ← hVs]; exact heap_alloc_new V _)
  rw [← hW]
  have HF := hide (fail_new g ta tc l p en true W hl hp HBW.out (HE.out.grown HGW.out).row HE.out.apart)
  rw [← HBe.out] at HF
  clear hW hV hVs c f HGV HBV HB HE HBW
  go_wp2_with fail
  refine Calls.mono HF.out ?_
  rintro e1 w2 ⟨rfl, hb2, hg2⟩
  have HB2 := hide hb2
  have HG2 := hide (gr_trans HGW.out hg2)
  have hr2 := HRW.out.grown hg2 (fun e => by simp at e; omega)
  have c3 : w2.cell? ⟨g, 3, none⟩ = some (.int .i64 B) := (hb2.c 3).trans rfl
  have rc := hr2.c
  have rf := hr2.f
  have hB' : ¬ B < 0 := by omega
  have HR2 := hide hr2
  clear hb2 hg2 HF HRW HGW hr2
  go_wp2_with fail
  refine bodyPost_ret (v := l2v ⟨0, 0, ⟨#[]⟩⟩ (.slice none 0 0)) (by simp [results, Tryd.results18, go_sem, l2v, *]) rfl ⟨⟨⟨0, 0, ⟨#[]⟩⟩, none, 0, 0, rfl⟩, ⟨p, ?_⟩, ?_⟩
  · exact (((HB2.out.other (by omega)).other (by omega)).other (by omega)).other (by omega)
  · exact gr_own (gr_own (gr_own (gr_own HG2.out (Nat.le_refl _)) (Nat.le_refl _)) (Nat.le_refl _)) (Nat.le_refl _)
end Go.Proofs.YtmnicilgenpnfaaDoor.W

/-
  The tokens of a text have kinds 1, 2 and 3 and places at 0 or above; the specification's reader at the tokens of a text. No program but the reader.
-/
import Derived.Test.YtmnicilgenpnfaaDoorPsH
import Derived.Test.YtmnicilgenpnfaaDoorPxG
namespace Go.Proofs.YtmnicilgenpnfaaDoor.W
open Go.ChangeShapes Go.WideShapes Go.ChangeAt Go.RowKit
set_option linter.unusedVariables false
set_option linter.unusedSimpArgs false

theorem word_kind (s : ByteArray) (p : Nat) (d : Wd) (h : wordAt s p = some d) : d.kind = 1 ∨ d.kind = 2 ∨ d.kind = 3 := by
  unfold wordAt at h
  split at h
  · split at h
    · cases h
    · cases h; exact .inl rfl
  · split at h
    · split at h
      · cases h
      · cases h; exact .inr (.inl rfl)
    · split at h
      · cases h
      · cases h; exact .inr (.inr rfl)
def Kinds (l : Toks) : Prop := ∀ x ∈ l, x.1.kind = 1 ∨ x.1.kind = 2 ∨ x.1.kind = 3
theorem lexGo_kinds (s : ByteArray) : ∀ (f p : Nat) (out : Toks), Kinds out → Kinds (lexGo s f p out).1
  | 0, p, out, ho => ho
  | f + 1, p, out, ho => by
    unfold lexGo
    split
    · rename_i h
      split
      · exact lexGo_kinds s f (p + 1) out ho
      · cases hw : wordAt s p with
        | none => intro x hx; cases hx
        | some d =>
          simp only
          split
          · intro x hx; cases hx
          · refine lexGo_kinds s f (p + d.len) (out ++ [(d, p)]) (fun x hx => ?_)
            rcases List.mem_append.1 hx with hx | hx
            · exact ho x hx
            · rw [List.mem_singleton] at hx
              subst hx
              exact word_kind s p d hw
    · exact ho
theorem lexT_kinds (s : ByteArray) : Kinds (lexT s).1 := by
  unfold lexT
  split
  · intro x hx; cases hx
  · exact lexGo_kinds s s.size 0 [] (fun x hx => by cases hx)
theorem tkL_kinds {l : Toks} (h : Kinds l) : ∀ x ∈ tkL l, x.k = 1 ∨ x.k = 2 ∨ x.k = 3 := by
  intro x hx
  obtain ⟨y, hy, rfl⟩ := List.mem_map.1 hx
  exact h y hy
theorem tkL_pos (l : Toks) : ∀ x ∈ tkL l, 0 ≤ x.a := by
  intro x hx
  obtain ⟨y, hy, rfl⟩ := List.mem_map.1 hx
  show (0 : Int) ≤ (y.2 : Int)
  omega
theorem tksOf_kinds (s : ByteArray) : ∀ x ∈ tksOf s, x.k = 1 ∨ x.k = 2 ∨ x.k = 3 := by
  unfold tksOf
  split
  · exact tkL_kinds (lexT_kinds _)
  · exact tkL_kinds (lexT_kinds _)
theorem tksOf_pos (s : ByteArray) : ∀ x ∈ tksOf s, 0 ≤ x.a := by
  unfold tksOf
  split
  · exact tkL_pos _
  · exact tkL_pos _
theorem lexT_small {s : ByteArray} (h : ¬ 300 < s.size) : lexT s = lexR s := if_neg h
/-- All, from the first token on. -/
theorem all_any (g : Nat) (ta : Option Addr) (tc en : Nat) (s : ByteArray) (w : World) (he : EnvS w g ta (tksOf s)) (hb : Bk w g (spC ta (tksOf s).length tc 0 en (-1) false) 33) :
    Calls Tryd.prog 10 #[.pointer (some ⟨g, 0, none⟩), .int .i64 1, .int .i64 0] w (SO w g ta tc en (tksOf s) (zOf s)) :=
  (QS_all g ta tc en (tksOf s) (by have := tksOf_len s; omega) (tksOf_kinds s) _).2 1 0 0 w (by omega) (by omega) (by omega) (by omega) he hb
end Go.Proofs.YtmnicilgenpnfaaDoor.W

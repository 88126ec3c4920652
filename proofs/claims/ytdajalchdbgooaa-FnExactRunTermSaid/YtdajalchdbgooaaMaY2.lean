/-
  l6Do and l6Go at any good machine of a closed term: the cases joined.
-/
import Derived.Test.YtdajalchdbgooaaMaY0
import Derived.Test.YtdajalchdbgooaaMaY1
namespace Go.Proofs.Ytdajalchdbgooaa.W
open Go.ChangeShapes Go.WideShapes Go.ChangeAt Go.RowKit
set_option linter.unusedVariables false
set_option linter.unusedSimpArgs false

theorem l6Go_any (lo cb0 : Nat) (ad : Option Addr) (c : Nat) (l : List Cc) (a : F) (v : Value) (m : Mc) (f : Fm) (w : World) (hCl : Cl l a) (h : SM w lo v m) (hS : SR w lo cb0 ad c l a) (hG : GM a l m) (hd : m.done = true) (hf : m.fs.getLast? = some f) :
    Calls Try.prog 99 #[.pointer (some ⟨cb0, 0, none⟩), v] w (GoP lo w (goM a l m f)) := by
  obtain ⟨p1, p2, p3, p4⟩ := fOk_parts (hG.fs f (List.mem_of_getLast? hf))
  rcases p4 with h1 | ⟨h45, h0, h2⟩
  · rcases p3 with h3 | h3 | h3 | h3
    · exact l6Go_first4 lo cb0 ad c l a v m f w hCl h hS hG hd hf h3 h1
    · exact l6Go_first5 lo cb0 ad c l a v m f w hCl h hS hG hd hf h3 h1
    · exact l6Go_if lo cb0 ad c l a v m f w hCl h hS hG hd hf h3 h1
    · exact l6Go_let lo cb0 ad c l a v m f w hCl h hS hG hd hf h3 h1
  · obtain ⟨j, hj⟩ := Int.eq_ofNat_of_zero_le h0
    rcases h45 with h3 | h3
    · exact l6Go_app lo cb0 ad c l a v m f w hCl h hS hG hd hf h3 j hj (by omega)
    · exact l6Go_add lo cb0 ad c l a v m f w hCl h hS hG hd hf h3 j hj (by omega)

/-- What l6Do answers. -/
def DoP (lo : Nat) (w : World) (m : Mc) (R : Mc ⊕ Int) (r : Ending) (w' : World) : Prop := ∃ v', r = .returned (.tuple #[v', .bool (isL R)]) ∧ SM w' lo v' (mcOf' m R) ∧ Below lo w w' ∧ ∀ (b : Nat) (cs : Array Value) (T : TypeId), T ≠ 96 → T ≠ 74 → T ≠ 124 → Bx w b cs T → Bx w' b cs T

theorem l6Do_any (lo cb0 : Nat) (ad : Option Addr) (c : Nat) (l : List Cc) (a : F) (v : Value) (m : Mc) (w : World) (hCl : Cl l a) (h : SM w lo v m) (hS : SR w lo cb0 ad c l a) (hG : GM a l m) (hd : m.done = false) :
    Calls Try.prog 98 #[.pointer (some ⟨cb0, 0, none⟩), v] w (DoP lo w m (doM a l m)) := by
  obtain ⟨d1, d2⟩ := nOk_not hG.now hd
  obtain ⟨q1, q2, q3⟩ := pOk_iff.1 d2
  obtain ⟨x, e, k, x1, x2, x3, x4, x5, x6, x7⟩ := hCl.part q1
  unfold doM
  rw [x2]
  simp only
  by_cases k1 : x.k = 1
  · have hh := l6Do_var lo cb0 ad c l a v m w hCl h hS hG hd x x2 (hide k1)
    simp only [k1]
    exact hh
  by_cases k2 : x.k = 2
  · have hh := l6Do_num lo cb0 ad c l a v m w hCl h hS hG hd x x2 (hide k2)
    simp only [k2]
    exact hh
  by_cases k3 : x.k = 3
  · have hh := l6Do_lam lo cb0 ad c l a v m w hCl h hS hG hd x x2 (hide k3)
    simp only [k3]
    exact hh
  rw [if_neg k1, if_neg k2, if_neg k3]
  by_cases hn : 500 ≤ m.fs.length
  · rw [if_pos hn]
    exact l6Do_full lo cb0 ad c l a v m w hCl h hS hG hd x x2 (hide ⟨k1, k2, k3⟩) (hide hn)
  · rw [if_neg hn]
    exact l6Do_push lo cb0 ad c l a v m w hCl h hS hG hd x x2 (hide ⟨k1, k2, k3⟩) (hide hn)
end Go.Proofs.Ytdajalchdbgooaa.W

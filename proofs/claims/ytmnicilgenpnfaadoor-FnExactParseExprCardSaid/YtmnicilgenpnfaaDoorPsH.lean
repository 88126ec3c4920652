/-
  The specification's reader at every step. Conditions: at most 1000 tokens, each of kind 1, 2 or 3.
-/
import Derived.Test.YtmnicilgenpnfaaDoorPsE
import Derived.Test.YtmnicilgenpnfaaDoorPsF
import Derived.Test.YtmnicilgenpnfaaDoorPsG
namespace Go.Proofs.YtmnicilgenpnfaaDoor.W
open Go.ChangeShapes Go.WideShapes Go.ChangeAt Go.RowKit
set_option linter.unusedVariables false
set_option linter.unusedSimpArgs false

/-- Both contracts, with so many steps. -/
def QS (g : Nat) (ta : Option Addr) (tc en : Nat) (l : List T.Tk) (f : Nat) : Prop :=
  (∀ (d p : Nat) (w : World), d ≤ 100 → p ≤ l.length → 4 * (l.length - p) + 1 ≤ f → EnvS w g ta l → Bk w g (spC ta l.length tc p en (-1) false) 33 → Calls Tryd.prog 18 #[.pointer (some ⟨g, 0, none⟩), .int .i64 (d : Int)] w (SO w g ta tc en l (rOne l f d p))) ∧
  (∀ (least : Int) (d p : Nat) (w : World), 1 ≤ least → d ≤ 100 → p ≤ l.length → 4 * (l.length - p) + 2 ≤ f → EnvS w g ta l → Bk w g (spC ta l.length tc p en (-1) false) 33 → Calls Tryd.prog 10 #[.pointer (some ⟨g, 0, none⟩), .int .i64 least, .int .i64 (d : Int)] w (SO w g ta tc en l (rFrom l f least d p)))
/-- All, too deep. -/
theorem all_deep (g : Nat) (ta : Option Addr) (tc en : Nat) (l : List T.Tk) (p : Nat) (w : World) (hl : l.length ≤ 1000) (hp : p ≤ l.length) (he : EnvS w g ta l) (hb : Bk w g (spC ta l.length tc p en (-1) false) 33)
    (ih : ∀ (f' : Nat) (n : Int) (q : Nat) (w' : World), f' ≤ 0 → 1 ≤ n → q ≤ l.length → 4 * (l.length - q) + 2 ≤ f' → EnvS w' g ta l → Bk w' g (spC ta l.length tc q en (-1) false) 33 → Calls Tryd.prog 10 #[.pointer (some ⟨g, 0, none⟩), .int .i64 n, .int .i64 ((101 : Nat) : Int)] w' (SO w' g ta tc en l (rFrom l f' n 101 q)) := fun f' n q w' h1 _ _ h2 => by omega) :
    Calls Tryd.prog 10 #[.pointer (some ⟨g, 0, none⟩), .int .i64 1, .int .i64 101] w (SO w g ta tc en l (.bad p true)) :=
  all_of g ta tc en l 0 101 p 1 w (.bad p true) (.bad p true) hl (by decide) he hb (fun w' h1 h2 => one_deep g ta tc en l p w' hl hp h1 h2) (fun e q h => by cases h) (fun q t h => h) ih
theorem QS_all (g : Nat) (ta : Option Addr) (tc en : Nat) (l : List T.Tk) (hl : l.length ≤ 1000) (hkind : ∀ x ∈ l, x.k = 1 ∨ x.k = 2 ∨ x.k = 3) (f : Nat) : QS g ta tc en l f := by
  induction f using Nat.strongRecOn with
  | ind f ih =>
    cases f with
    | zero => exact ⟨fun d p w _ hp hf => by omega, fun least d p w _ _ hp hf => by omega⟩
    | succ f =>
      refine ⟨?_, ?_⟩
      · intro d p w hd hp hf he hb
        have e1 : ((d + 1 : Nat) : Int) = (d : Int) + 1 := by omega
        by_cases hlt : p < l.length
        · obtain ⟨f2, rfl⟩ : ∃ f2, f = f2 + 1 := ⟨f - 1, by omega⟩
          have hz : rOne l (f2 + 1 + 1) d p = if (l[p]).k = 1 then .ok (.leaf ⟨1, (l[p]).n, ⟨#[]⟩⟩) (p + 1) else if (l[p]).k = 2 then .ok (.leaf ⟨2, 0, (l[p]).t⟩) (p + 1)
            else if sqAt l p [45] then rAhead l (f2 + 1) 3 d p else if sqAt l p [33] then rAhead l (f2 + 1) 4 d p else if sqAt l p [40] then rBr l (f2 + 1) d p else .bad p false := by rw [rOne, List.getElem?_eq_getElem hlt]
          have hA : ∀ k : Int, rAhead l (f2 + 1) k d p = if 100 ≤ d then .bad (p + 1) true else match rOne l f2 (d + 1) (p + 1) with | .ok e q => .ok (.one ⟨k, 0, ⟨#[]⟩⟩ e) q | .bad q t => .bad q t := fun k => by rw [rAhead]; rfl
          have hB : rBr l (f2 + 1) d p = if 100 ≤ d then .bad (p + 1) true else match rFrom l f2 1 (d + 1) (p + 1) with | .ok e q => if sqAt l q [41] then .ok e (q + 1) else .bad q false | .bad q t => .bad q t := by rw [rBr]; rfl
          have hO := (ih f2 (by omega)).1
          have hF := (ih f2 (by omega)).2
          have hk := hkind l[p] (List.getElem_mem hlt)
          rw [hz]
          by_cases h1 : l[p].k = 1
          · rw [if_pos h1]; exact one_num g ta tc en l p d w hl hd he hb hlt h1
          by_cases h2 : l[p].k = 2
          · rw [if_neg h1, if_pos h2]; exact one_name g ta tc en l p d w hl hd he hb hlt h2
          rw [if_neg h1, if_neg h2]
          have h3 : l[p].k = 3 := by omega
          by_cases s45 : sqAt l p [45] = true
          · rw [if_pos s45, hA]
            by_cases h100 : 100 ≤ d
            · rw [if_pos h100]
              obtain rfl : d = 100 := by omega
              exact one_minus_bad g ta tc en l p 100 w hl hd he hb hlt s45 _ _ (fun w' a b => one_deep g ta tc en l (p + 1) w' hl (by omega) a b)
            · rw [if_neg h100]
              have hc := fun w' a b => hO (d + 1) (p + 1) w' (by omega) (by omega) (by omega) a b
              rw [e1] at hc
              cases hz2 : rOne l f2 (d + 1) (p + 1) with
              | ok e q => rw [hz2] at hc; exact one_minus g ta tc en l p d w hl hd he hb hlt s45 e q hc
              | bad q t => rw [hz2] at hc; exact one_minus_bad g ta tc en l p d w hl hd he hb hlt s45 q t hc
          rw [if_neg s45]
          by_cases s33 : sqAt l p [33] = true
          · rw [if_pos s33, hA]
            by_cases h100 : 100 ≤ d
            · rw [if_pos h100]
              obtain rfl : d = 100 := by omega
              exact one_not_bad g ta tc en l p 100 w hl hd he hb hlt s33 _ _ (fun w' a b => one_deep g ta tc en l (p + 1) w' hl (by omega) a b)
            · rw [if_neg h100]
              have hc := fun w' a b => hO (d + 1) (p + 1) w' (by omega) (by omega) (by omega) a b
              rw [e1] at hc
              cases hz2 : rOne l f2 (d + 1) (p + 1) with
              | ok e q => rw [hz2] at hc; exact one_not g ta tc en l p d w hl hd he hb hlt s33 e q hc
              | bad q t => rw [hz2] at hc; exact one_not_bad g ta tc en l p d w hl hd he hb hlt s33 q t hc
          rw [if_neg s33]
          by_cases s40 : sqAt l p [40] = true
          · rw [if_pos s40, hB]
            by_cases h100 : 100 ≤ d
            · rw [if_pos h100]
              obtain rfl : d = 100 := by omega
              exact one_br_bad g ta tc en l p 100 w hl hd he hb hlt s40 _ _ (fun w' a b => all_deep g ta tc en l (p + 1) w' hl (by omega) a b)
            · rw [if_neg h100]
              have hc := fun w' a b => hF 1 (d + 1) (p + 1) w' (by omega) (by omega) (by omega) (by omega) a b
              have hAf := (after_all l f2).2.2.2.1 1 (d + 1) (p + 1) (by omega) (by omega)
              rw [e1] at hc
              cases hz2 : rFrom l f2 1 (d + 1) (p + 1) with
              | ok e q =>
                rw [hz2] at hc hAf
                simp only
                by_cases s41 : sqAt l q [41] = true
                · rw [if_pos s41]; exact one_br g ta tc en l p d w hl hd he hb hlt s40 e q s41 hAf.2.1 hc
                · rw [if_neg s41]; exact one_br_open g ta tc en l p d w hl hd he hb hlt s40 e q (by simpa using s41) hAf.2.1 hc
              | bad q t => rw [hz2] at hc; exact one_br_bad g ta tc en l p d w hl hd he hb hlt s40 q t hc
          rw [if_neg s40]
          exact one_sign g ta tc en l p d w hl hd he hb hlt h3 (by simpa using s45) (by simpa using s33) (by simpa using s40)
        · have hz : rOne l (f + 1) d p = .bad p false := by rw [rOne, List.getElem?_eq_none (by omega)]
          rw [hz]
          exact one_end g ta tc en l p d w hl hd he hb hp hlt
      · intro least d p w hleast hd hp hf he hb
        have hz : rFrom l (f + 1) least d p = match rOne l f d p with | .ok e q => rLoop l f least d e q | .bad q t => .bad q t := by rw [rFrom]; rfl
        have hA := (after_all l f).1 d p hp
        refine all_of g ta tc en l f d p least w (rOne l f d p) _ hl hleast he hb (fun w' a b => (ih f (by omega)).1 d p w' hd hp (by omega) a b) ?_ ?_ (fun f' n q w' h1 h2 h3 h4 a b => (ih f' (by omega)).2 n d q w' h2 hd h3 h4 a b)
        · intro e q hy
          rw [hy] at hA hz
          obtain ⟨a1, a2, a3⟩ := hA
          exact ⟨a2, by omega, hz⟩
        · intro q t hy
          rw [hy] at hz
          exact hz
end Go.Proofs.YtmnicilgenpnfaaDoor.W

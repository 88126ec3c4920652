/-
  How many nodes CompileRules tells, and how long their rows are; both sides' answers as rows of nodes. No condition but those that the theorems state.
-/
import Derived.Test.YtmlpnmdckgppnaaCsK
import Derived.Test.YtmlpnmdckgppnaaCsM
namespace Go.Proofs.Ytmlpnmdckgppnaa.W
open Go.ChangeShapes Go.WideShapes Go.ChangeAt Go.RowKit
set_option linter.unusedVariables false
set_option linter.unusedSimpArgs false

def Pth (ns : List Nd) : Prop := ∀ a ∈ ns, a.path.length ≤ 1000
theorem pth_mod (x : Int) : ∀ (i : Nat) (ns : List Nd), Pth ns → Pth (ns.modify i (fun n => { n with next := n.next ++ [x] }))
  | i, [], h => by simpa using h
  | 0, a :: ns, h => by
    rw [List.modify_zero_cons]
    intro b hb
    rcases List.mem_cons.1 hb with e | hb
    · subst e; exact h a (by simp)
    · exact h b (List.mem_cons_of_mem a hb)
  | i + 1, a :: ns, h => by
    rw [List.modify_succ_cons]
    have ih := pth_mod x i ns (fun b hb => h b (List.mem_cons_of_mem a hb))
    intro b hb
    rcases List.mem_cons.1 hb with e | hb
    · subst e; exact h b (by simp)
    · exact ih b hb
theorem pth_setN (i : Nat) (ns : List Nd) (h : Pth ns) : Pth (setN i ns) := pth_mod _ i ns h
theorem pth_sdL {g : List Aq → List Nd → List Nd} {i : Nat} : ∀ (ss : List (List Aq)) (ns : List Nd), (∀ s ∈ ss, ∀ ns, Pth ns → Pth (g s ns)) → Pth ns → Pth (sdL g i ss ns)
  | [], ns, _, h => h
  | s :: ss, ns, hg, h => by
    unfold sdL
    split
    · exact h
    · exact pth_sdL ss _ (fun t ht => hg t (List.mem_cons_of_mem s ht)) (hg s (by simp) _ (pth_setN i ns h))
theorem pth_cmpP (D : List Int) (m : Nat) : ∀ (n : Nat) (l : List Aq) (ns : List Nd), SdOk D n l → Pth ns → Pth (cmpP m n l ns)
  | 0, l, ns, h, _ => absurd h.sz (Nat.not_lt_zero _)
  | n + 1, l, ns, h, hp => by
    rw [cmpP_ndR]
    refine pth_sdL _ _ (fun s hs ns hp => pth_cmpP D m n s ns (ndR_sides h s hs) hp) ?_
    intro b hb
    rcases List.mem_append.1 hb with hb | hb
    · exact hp b hb
    · rw [List.mem_singleton.1 hb]
      exact ndR_path h.ok
theorem ct_le {ns : List Nd} (h1 : Pth ns) (h2 : tot ns ≤ 1000) (s : Nat) : (ctF ns s).length ≤ 1000 := by
  have hd : ns.getD (s / 3) d0 ∈ ns ∨ ns.getD (s / 3) d0 = d0 := by
    by_cases h : s / 3 < ns.length
    · exact .inl (by simp [List.getD, h])
    · exact .inr (by simp [List.getD, h])
  unfold ctF
  rcases hd with hd | hd
  · split
    · exact h1 _ hd
    · have := tot_mem hd; omega
  · rw [hd]; split <;> simp [d0]
/-- What the law's walk wants of the answer. -/
theorem cr_facts (D : List Int) (L : List (List Pt)) : ∃ (n : Nat) (R : Nat → Int) (C : Nat → List Int), n ≤ 200 ∧ (∀ s, (C s).length ≤ 1000) ∧ ∀ base O w v xs, NVx base O w v xs (crR D L).1 → NS base w v n xs R C := by
  refine ⟨(crR D L).1.length, ruF (crR D L).1, ctF (crR D L).1, ?_, ?_, fun base O w v xs h => h.ns⟩
  · unfold crR
    split
    · rename_i h; exact h.2
    · simp
  · by_cases h : goodR D L = true ∧ (crN D L).length ≤ 200
    · rw [crR_yes h.1 h.2]
      obtain ⟨f1, f2, f3, f4, f5⟩ := goodR_facts h.1
      have hs := begL_ok f5 (by omega)
      have h1 := cmpP_tot D D.length 1001 (begL 0 (psOf D L)) [] hs
      have h2 := pth_cmpP D D.length 1001 (begL 0 (psOf D L)) [] hs (fun a ha => by cases ha)
      have h3 := h.2
      have h4 : tot (crN D L) ≤ 1000 := by
        unfold crN at h3 ⊢
        simp only [tot, List.map_nil, List.sum_nil, List.length_nil] at h1 ⊢
        omega
      exact ct_le h2 h4
    · rw [crR_no h]
      exact ct_le (fun a ha => by cases ha) (by simp [tot])
/-- What both sides tell, as rows of nodes. -/
def CrNS (w : World) (n : Nat) (R : Nat → Int) (C : Nat → List Int) (b : Bool) (e : Ending) (w' : World) : Prop :=
  ∃ v xs, e = .returned (.tuple #[v, .bool b]) ∧ NS w.heap.size w' v n xs R C ∧ Below w.heap.size w w'
theorem CrPost.ns {w w' : World} {D : List Int} {L : List (List Pt)} {e : Ending} {n : Nat} {R : Nat → Int} {C : Nat → List Int} (h : CrPost w D L e w') (hn : ∀ base O w v xs, NVx base O w v xs (crR D L).1 → NS base w v n xs R C) : CrNS w n R C (crR D L).2 e w' := by
  obtain ⟨v, xs, O, h1, h2, h3⟩ := h
  exact ⟨v, xs, h1, hn _ _ _ _ _ h2, h3⟩
end Go.Proofs.Ytmlpnmdckgppnaa.W

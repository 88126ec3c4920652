/-
  The contract of the program's LexText: the tokens of a text, or the place of the first fault, as the plain function lexT tells them. No conditions but that the text is at most 2^63 - 1 bytes long.
-/
import Derived.Test.YtmnicilgenpnfaaDoorLex3
import Derived.WalkMore
import Derived.ScopeJumps
import Derived.Outline
import Derived.Deep.Cut
namespace Go.Proofs.YtmnicilgenpnfaaDoor.W
open Go.ChangeShapes Go.WideShapes Go.ChangeAt Go.RowKit

def lexT (s : ByteArray) : Toks × Nat × Bool := if 300 < s.size then ([], 0, false) else lexR s

/-! ### jumps -/
/-- As Q; by a goto to label l: J l. -/
def jumps (J : Nat → Act → World → Prop) (Q : Exit → Act → World → Prop) : Exit → Act → World → Prop
  | .goto l, a, w => J l a w
  | e, a, w => Q e a w

theorem wp_scope_two {P : Program} {a : Act} {w : World} {Q : Exit → Act → World → Prop} {c r0 r1 : Code} (J : Nat → Act → World → Prop) (μ : Nat → Act → World → Nat) (hf0 : findLabel c 0 = some r0) (hf1 : findLabel c 1 = some r1) (h01 : ∀ l a w, J l a w → l = 0 ∨ l = 1)
    (first : c.wp P (jumps J Q) a w)
    (pass0 : ∀ a w, J 0 a w → r0.wp P (jumps (fun l' a' w' => J l' a' w' ∧ μ l' a' w' < μ 0 a w) Q) a w)
    (pass1 : ∀ a w, J 1 a w → r1.wp P (jumps (fun l' a' w' => J l' a' w' ∧ μ l' a' w' < μ 1 a w) Q) a w) : (Code.scope c).wp P Q a w := by
  let rest : Nat → Code := fun l => if l = 0 then r0 else r1
  have hf : ∀ l a w, J l a w → findLabel c l = some (rest l) := fun l a w h => by
    rcases h01 l a w h with rfl | rfl
    · exact hf0
    · exact hf1
  have pass : ∀ l a w, J l a w → (rest l).wp P (jumps (fun l' a' w' => J l' a' w' ∧ μ l' a' w' < μ l a w) Q) a w := fun l a w h => by
    rcases h01 l a w h with rfl | rfl
    · exact pass0 a w h
    · exact pass1 a w h
  intro b k cs
  have hg : ∀ l a w, J l a w → gotoIn l (.inScope c :: k) = some (.code (rest l) :: .inScope c :: k) := fun l a w h => by simp [gotoIn, hf l a w h]
  have key : ∀ n l a w, μ l a w = n → J l a w → ∃ e a' w', Q e a' w' ∧ Arrives P (lone (b.at a (.code (rest l) :: .inScope c :: k)) cs w) b k cs e a' w' := by
    intro n
    induction n using Nat.strongRecOn with
    | _ n ih =>
      intro l a w hn hJ
      obtain ⟨e, a₁, w₁, hq, harr⟩ := pass l a w hJ b (.inScope c :: k) cs
      cases e with
      | normal => exact ⟨.normal, a₁, w₁, hq, Steps.trans harr (.one step_inScope)⟩
      | exit id => exact ⟨.exit id, a₁, w₁, hq, fun k' hk => harr k' (by simp [exitTo, hk])⟩
      | goto l' =>
        obtain ⟨hJ', hlt⟩ := hq
        obtain ⟨e₂, a₂, w₂, hq₂, harr₂⟩ := ih _ (by omega) l' a₁ w₁ rfl hJ'
        exact ⟨e₂, a₂, w₂, hq₂, .of_steps (harr _ (hg _ _ _ hJ')) harr₂⟩
      | ret => exact ⟨_, a₁, w₁, hq, harr⟩
      | panic ch => exact ⟨_, a₁, w₁, hq, harr⟩
      | outgrown => exact ⟨_, a₁, w₁, hq, harr⟩
  obtain ⟨e, a₁, w₁, hq, harr⟩ := first b (.inScope c :: k) cs
  cases e with
  | normal => exact ⟨.normal, a₁, w₁, hq, .head step_scope (Steps.trans harr (.one step_inScope))⟩
  | exit id => exact ⟨.exit id, a₁, w₁, hq, fun k' hk => .head step_scope (harr k' (by simp [exitTo, hk]))⟩
  | goto l' =>
    obtain ⟨e₂, a₂, w₂, hq₂, harr₂⟩ := key _ l' a₁ w₁ rfl hq
    exact ⟨e₂, a₂, w₂, hq₂, .of_steps (.head step_scope (harr _ (hg _ _ _ hq))) harr₂⟩
  | ret => exact ⟨_, a₁, w₁, hq, .of_steps (.one step_scope) harr⟩
  | panic ch => exact ⟨_, a₁, w₁, hq, .of_steps (.one step_scope) harr⟩
  | outgrown => exact ⟨_, a₁, w₁, hq, .of_steps (.one step_scope) harr⟩

theorem jumps_ret (J : Nat → Act → World → Prop) (Q : Exit → Act → World → Prop) (a : Act) (w : World) : jumps J Q .ret a w = Q .ret a w := rfl
theorem jumps_goto (J : Nat → Act → World → Prop) (Q : Exit → Act → World → Prop) (l : Nat) (a : Act) (w : World) : jumps J Q (.goto l) a w = J l a w := rfl

/-- What holds at the label 'between': the place, the tokens so far, the token's own block. -/
def Btw (s : ByteArray) (w : World) (v : Value) (p : Nat) (w' : World) : Prop :=
  ∃ (f : Nat) (out : Toks), p ≤ s.size ∧ s.size - p ≤ f ∧ out.length ≤ 120 ∧ lexGo s f p out = lexR s ∧ w'.ownsRow (w.heap.size + 1) 44 4 v out.length (toksC out) ∧ (∃ (k n : Int) (t : ByteArray) (a : Int), w'.heap[w.heap.size]? = some (.cells #[.int .i64 k, .int .i64 n, .string t, .int .i64 a] 44)) ∧ Below w.heap.size w w'
/-- What holds at the label 'fault'. -/
def Flt (s : ByteArray) (w : World) (p : Nat) (w' : World) : Prop := lexR s = ([], p, false) ∧ Below w.heap.size w w'
def JL (s : ByteArray) (w : World) (l : Nat) (a : Act) (w' : World) : Prop :=
  ∃ (v : Value) (p : Nat) (z u12 u13 u14 u15 u16 u17 u18 u19 u20 u21 u22 u23 u24 u25 u26 u27 u28 u29 u30 u31 u32 u33 u34 u35 u36 u37 u38 u39 u40 u41 u42 u43 u44 : Value), a = { tmps := List.toArray (.string s :: undef :: .slice none 0 0 :: .int .i64 0 :: .bool false :: v :: .pointer (some ⟨w.heap.size, 0, none⟩) :: .int .i64 p :: z :: .string s :: .int .i64 s.size :: .bool false :: u12 :: u13 :: u14 :: u15 :: u16 :: u17 :: u18 :: u19 :: u20 :: u21 :: u22 :: u23 :: u24 :: u25 :: u26 :: u27 :: u28 :: u29 :: u30 :: u31 :: u32 :: u33 :: u34 :: u35 :: u36 :: u37 :: u38 :: u39 :: u40 :: u41 :: u42 :: u43 :: u44 :: []), defers := [] } ∧ ((l = 0 ∧ Btw s w v p w') ∨ (l = 1 ∧ Flt s w p w'))
def muL (s : ByteArray) (l : Nat) (a : Act) (_ : World) : Nat := if l = 0 then s.size - (intOf (a.tmps.getD 7 undef)).toNat + 1 else 0

/-- The frame at a label, the place being p. -/
def JLA (s : ByteArray) (w : World) (p : Nat) (a : Act) : Prop :=
  ∃ (v z u12 u13 u14 u15 u16 u17 u18 u19 u20 u21 u22 u23 u24 u25 u26 u27 u28 u29 u30 u31 u32 u33 u34 u35 u36 u37 u38 u39 u40 u41 u42 u43 u44 : Value), a = { tmps := List.toArray (.string s :: undef :: .slice none 0 0 :: .int .i64 0 :: .bool false :: v :: .pointer (some ⟨w.heap.size, 0, none⟩) :: .int .i64 p :: z :: .string s :: .int .i64 s.size :: .bool false :: u12 :: u13 :: u14 :: u15 :: u16 :: u17 :: u18 :: u19 :: u20 :: u21 :: u22 :: u23 :: u24 :: u25 :: u26 :: u27 :: u28 :: u29 :: u30 :: u31 :: u32 :: u33 :: u34 :: u35 :: u36 :: u37 :: u38 :: u39 :: u40 :: u41 :: u42 :: u43 :: u44 :: []), defers := [] }
theorem JL_fault {s : ByteArray} {w w' : World} {p : Nat} {a : Act} (ha : JLA s w p a) (h : Flt s w p w') : JL s w 1 a w' := by
  obtain ⟨v, z, u12, u13, u14, u15, u16, u17, u18, u19, u20, u21, u22, u23, u24, u25, u26, u27, u28, u29, u30, u31, u32, u33, u34, u35, u36, u37, u38, u39, u40, u41, u42, u43, u44, rfl⟩ := ha
  exact ⟨v, p, z, u12, u13, u14, u15, u16, u17, u18, u19, u20, u21, u22, u23, u24, u25, u26, u27, u28, u29, u30, u31, u32, u33, u34, u35, u36, u37, u38, u39, u40, u41, u42, u43, u44, rfl, .inr ⟨rfl, h⟩⟩

/-- The frame at a label, the place being p and the tokens v. -/
def JLB (s : ByteArray) (w : World) (v : Value) (p : Nat) (a : Act) : Prop :=
  ∃ (z u12 u13 u14 u15 u16 u17 u18 u19 u20 u21 u22 u23 u24 u25 u26 u27 u28 u29 u30 u31 u32 u33 u34 u35 u36 u37 u38 u39 u40 u41 u42 u43 u44 : Value), a = { tmps := List.toArray (.string s :: undef :: .slice none 0 0 :: .int .i64 0 :: .bool false :: v :: .pointer (some ⟨w.heap.size, 0, none⟩) :: .int .i64 p :: z :: .string s :: .int .i64 s.size :: .bool false :: u12 :: u13 :: u14 :: u15 :: u16 :: u17 :: u18 :: u19 :: u20 :: u21 :: u22 :: u23 :: u24 :: u25 :: u26 :: u27 :: u28 :: u29 :: u30 :: u31 :: u32 :: u33 :: u34 :: u35 :: u36 :: u37 :: u38 :: u39 :: u40 :: u41 :: u42 :: u43 :: u44 :: []), defers := [] }
theorem JL_btw {s : ByteArray} {w w' : World} {p : Nat} {a : Act} {v : Value} (ha : JLB s w v p a) (h : Btw s w v p w') : JL s w 0 a w' := by
  obtain ⟨z, u12, u13, u14, u15, u16, u17, u18, u19, u20, u21, u22, u23, u24, u25, u26, u27, u28, u29, u30, u31, u32, u33, u34, u35, u36, u37, u38, u39, u40, u41, u42, u43, u44, rfl⟩ := ha
  exact ⟨v, p, z, u12, u13, u14, u15, u16, u17, u18, u19, u20, u21, u22, u23, u24, u25, u26, u27, u28, u29, u30, u31, u32, u33, u34, u35, u36, u37, u38, u39, u40, u41, u42, u43, u44, rfl, .inl ⟨rfl, h⟩⟩

theorem ownsRow_set {w : World} {b g i : Nat} {e : TypeId} {size : Nat} {v : Value} {n : Nat} {xs : List Value} (h : w.ownsRow b e size v n xs) (hg : g < b) (u : Value) : (w.setCell ⟨g, i, none⟩ u).ownsRow b e size v n xs := ownsRow_setCell_below h hg u
theorem tok_set {w w2 w3 : World} {d0 d1 d3 : Int} {d2 : ByteArray} {t0 t1 t3 : Int} {t2 : ByteArray} {v : Value} {n : Nat} {xs : List Value}
    (hw3 : w3 = (((((w2.setCell ⟨w.heap.size, 0, none⟩ (.int .i64 d0)).setCell ⟨w.heap.size, 1, none⟩ (.int .i64 d1)).setCell ⟨w.heap.size, 2, none⟩ (.string d2)).setCell ⟨w.heap.size, 3, none⟩ (.int .i64 0)).setCell ⟨w.heap.size, 3, none⟩ (.int .i64 d3)))
    (hb : w2.heap[w.heap.size]? = some (.cells #[.int .i64 t0, .int .i64 t1, .string t2, .int .i64 t3] 44)) (ho : w2.ownsRow (w.heap.size + 1) 44 4 v n xs) (hB : Below w.heap.size w w2) (hz : w.heap.size + 1 ≤ w2.heap.size) :
    w3.heap[w.heap.size]? = some (.cells #[.int .i64 d0, .int .i64 d1, .string d2, .int .i64 d3] 44) ∧ w3.ownsRow (w.heap.size + 1) 44 4 v n xs ∧ Below w.heap.size w w3 ∧ w.heap.size + 1 ≤ w3.heap.size := by
  subst hw3
  refine ⟨?_, ?_, ?_, ?_⟩
  · rw [blk_setCell (blk_setCell (blk_setCell (blk_setCell (blk_setCell hb _) _) _) _) _]
    simp
  · exact ownsRow_set (ownsRow_set (ownsRow_set (ownsRow_set (ownsRow_set ho (by omega) _) (by omega) _) (by omega) _) (by omega) _) (by omega) _
  · exact ((((hB.setCell (Nat.le_refl _) _).setCell (Nat.le_refl _) _).setCell (Nat.le_refl _) _).setCell (Nat.le_refl _) _).setCell (Nat.le_refl _) _
  · simpa [World.setCell] using hz

theorem own_down {w : World} {b b' : Nat} {e : TypeId} {size : Nat} {v : Value} {n : Nat} {xs : List Value} (h : w.ownsRow b e size v n xs) (hb : b' ≤ b) : w.ownsRow b' e size v n xs := by
  refine ⟨h.1, ?_⟩
  rcases h.2 with hn | ⟨g, cap, cur, hv, hg, r⟩
  · exact .inl hn
  · exact .inr ⟨g, cap, cur, hv, by omega, r⟩

theorem run_stop (f : Int → Bool) (s : ByteArray) (p : Nat) (_hp : p ≤ s.size) : ∀ h : p + runFrom f s p < s.size, f (s[p + runFrom f s p]'h).toNat = false := by
  have : ∀ (k p : Nat), runFrom f s p = k → ∀ h : p + k < s.size, f (s[p + k]'h).toNat = false := by
    intro k
    induction k with
    | zero =>
      intro p hr h
      rw [Bool.eq_false_iff]
      intro hf
      rw [runFrom_yes f s p h hf] at hr; omega
    | succ k ih =>
      intro p hr h
      have hlt : p < s.size := by omega
      cases hf : f (s[p]'hlt).toNat with
      | false => rw [runFrom_no f s p hlt hf] at hr; omega
      | true =>
        rw [runFrom_yes f s p hlt hf] at hr
        have := ih (p + 1) (by omega) (by omega)
        have e : p + 1 + k = p + (k + 1) := by omega
        simp only [e] at this
        exact this
  exact this _ p rfl

set_option maxRecDepth 20000 in
set_option maxHeartbeats 4000000 in
theorem implLex_any (s : ByteArray) (w : World) (hs : s.size ≤ maxLen) :
    Calls Tryd.prog 13 #[.string s] w fun e w' => ∃ v, e = .returned (.tuple #[v, .int .i64 ((lexT s).2.1 : Nat), .bool (lexT s).2.2]) ∧ w'.ownsRow w.heap.size 44 4 v (lexT s).1.length (toksC (lexT s).1) ∧ Below w.heap.size w w' := by
  unfold maxLen at hs
  obtain ⟨i0, hi, hz0, hz1, hz2⟩ := info_parts infoTok
  by_cases h : 300 < s.size
  · have h' : (300 : Int) < (s.size : Int) := by omega
    rw [show lexT s = ([], 0, false) from if_pos h]
    go_enter Tryd.func13, Tryd.ntmps13
    go_wp2_with fail
    go_step3
    go_wp2_with fail
    rw [Exit.noGoto_ret]
    go_ret3
    exact ⟨_, rfl, World.ownsRow_nil _ _ _ _, Below.refl _ _⟩
  · have h' : ¬ (300 : Int) < (s.size : Int) := by omega
    have h2 : s.size ≤ 1000 := by omega
    have h3 : decide ((300 : Int) < (s.size : Int)) = false := decide_eq_false h'
    rw [show lexT s = lexR s from if_neg h]
    clear h
    go_enter Tryd.func13, Tryd.ntmps13
    go_wp2_with fail
    refine wp_scope_two (JL s w) (muL s) rfl rfl ?_ ?_ ?_ ?_
    · rintro l a' w' ⟨v, p, z, u12, u13, u14, u15, u16, u17, u18, u19, u20, u21, u22, u23, u24, u25, u26, u27, u28, u29, u30, u31, u32, u33, u34, u35, u36, u37, u38, u39, u40, u41, u42, u43, u44, -, h | h⟩
      · exact .inl h.1
      · exact .inr h.1
    · go_wp2_with fail
      go_step3
      rename_i K aK
      suffices key : ∀ (v : Value) (p : Nat) (z u12 u13 u14 u15 u16 u17 u18 u19 u20 u21 u22 u23 u24 u25 u26 u27 u28 u29 u30 u31 u32 u33 u34 u35 u36 u37 u38 u39 u40 u41 u42 u43 u44 : Value) (w' : World), Btw s w v p w' → K { tmps := List.toArray (.string s :: undef :: .slice none 0 0 :: .int .i64 0 :: .bool false :: v :: .pointer (some ⟨w.heap.size, 0, none⟩) :: .int .i64 p :: z :: .string s :: .int .i64 s.size :: .bool false :: u12 :: u13 :: u14 :: u15 :: u16 :: u17 :: u18 :: u19 :: u20 :: u21 :: u22 :: u23 :: u24 :: u25 :: u26 :: u27 :: u28 :: u29 :: u30 :: u31 :: u32 :: u33 :: u34 :: u35 :: u36 :: u37 :: u38 :: u39 :: u40 :: u41 :: u42 :: u43 :: u44 :: []), defers := [] } w' from
        key (.slice none 0 0) 0 (.int .i64 0) undef undef undef undef undef undef undef undef undef undef undef undef undef undef undef undef undef undef undef undef undef undef undef undef undef undef undef undef undef undef undef undef undef _ ⟨s.size, [], by omega, by omega, by simp, rfl, World.ownsRow_nil _ _ _ _, ⟨_, _, _, _, heap_alloc_new w _⟩, (Below.refl _ _).alloc (Nat.le_refl _) _⟩
      intro v p z u12 u13 u14 u15 u16 u17 u18 u19 u20 u21 u22 u23 u24 u25 u26 u27 u28 u29 u30 u31 u32 u33 u34 u35 u36 u37 u38 u39 u40 u41 u42 u43 u44 w' hJ
      refine aK _ _ ?_
      clear aK
      obtain ⟨f, out, hp, hf, hlen, hlex, hown, ⟨tk, tn, tt, ta, hbx⟩, hB⟩ := hJ
      have Hlex := hide hlex
      have Hbx := hide hbx
      clear hlex hbx
      obtain ⟨ad, cp, rfl⟩ := own_form hown
      have hlen' : (out.length : Int) ≤ 120 := by omega
      have hp' : (p : Int) ≤ (s.size : Int) := by omega
      go_wp2_with fail
      refine (run_isBlank (s.extract p s.size) _ (by unfold maxLen; simp; omega)).mono ?_
      rintro e w1 ⟨rfl, hb1⟩
      rw [runFrom_shift blkB s p hp]
      have hkle := runFrom_le blkB s p hp
      have HL1 := hide (lex_run s (runFrom blkB s p) f p out rfl hf)
      have HR := hide (run_stop blkB s p hp)
      obtain ⟨k, hk⟩ : ∃ k, k = runFrom blkB s p := ⟨_, rfl⟩
      rw [← hk] at hkle HL1 HR ⊢
      clear hk
      have hown1 := own_kept hown hb1
      have hB1 : Below w.heap.size w w1 := hB.trans (hb1.mono hB.size)
      have hlt0 : w.heap.size < w'.heap.size := (Array.getElem?_eq_some_iff.1 Hbx.out).1
      have hbx1 : Hid (w1.heap[w.heap.size]? = some (.cells #[.int .i64 tk, .int .i64 tn, .string tt, .int .i64 ta] 44)) := (hb1.block _ hlt0).trans Hbx.out
      have hz1' : w.heap.size + 1 ≤ w1.heap.size := by have := hb1.size; omega
      clear hown hb1 hB Hbx
      by_cases hend : ((p : Int) + (k : Int) == (s.size : Int)) = true
      · have HE := hide (lex_end s (f - k) (p + k) out (by simp at hend; omega))
        go_wp2_with fail
        rw [jumps_ret]
        go_ret3
        have e : lexR s = (out, 0, true) := by rw [← Hlex.out, HL1.out]; exact HE.out
        rw [e]
        exact ⟨_, rfl, own_down hown1 (by omega), hB1⟩
      · rw [Bool.not_eq_true] at hend
        have hlt : p + k < s.size := by simp at hend; omega
        have hlt' : (p : Int) + (k : Int) < (s.size : Int) := by omega
        have hnb := hide (HR.out hlt)
        by_cases hn : ((out.length : Int) == 120) = true
        · have HE := hide (lex_many s (f - k) (p + k) out hlt hnb.out (by omega) (by simp at hn; omega))
          go_wp2_with fail
          go_step3
          show JL s w 1 _ _
          exact JL_fault ⟨_, _, _, _, _, _, _, _, _, _, _, _, _, _, _, _, _, _, _, _, _, _, _, _, _, _, _, _, _, _, _, _, _, _, _, rfl⟩ ⟨by rw [← Hlex.out, HL1.out]; exact HE.out, hB1⟩
        · rw [Bool.not_eq_true] at hn
          have hn2 : ¬ out.length = 120 := by simp at hn; omega
          go_wp2_with fail
          refine (wordAhead_any (s.extract (p + k) s.size) _ (by simp; omega)).mono ?_
          rintro e w2 ⟨rfl, hb2⟩
          rw [word_shift s (p + k) (by omega)]
          have hown2 := own_kept hown1 hb2
          have hB2 : Below w.heap.size w w2 := hB1.trans (hb2.mono hB1.size)
          have hbx2 : w2.heap[w.heap.size]? = some (.cells #[.int .i64 tk, .int .i64 tn, .string tt, .int .i64 ta] 44) := (hb2.block _ (by omega)).trans hbx1.out
          have hz2' : w.heap.size + 1 ≤ w2.heap.size := by have := hb2.size; omega
          have c0 := cell_of_blk hbx2 0
          have c1 := cell_of_blk hbx2 1
          have c2 := cell_of_blk hbx2 2
          have c3 := cell_of_blk hbx2 3
          have f0 := unfrozen_of_blk hbx2
          have Hbx2 := hide hbx2
          clear hown1 hB1 hb2 hbx1 hbx2
          simp at c0 c1 c2 c3
          cases hw : wordAt s (p + k) with
          | none =>
            have HE := hide (lex_bad s (f - k) (p + k) out hlt hnb.out (by omega) hw)
            clear hw
            simp only [tokV, endOf]
            go_wp2_with fail
            go_step3
            show JL s w 1 _ _
            exact JL_fault ⟨_, _, _, _, _, _, _, _, _, _, _, _, _, _, _, _, _, _, _, _, _, _, _, _, _, _, _, _, _, _, _, _, _, _, _, rfl⟩ ⟨by rw [← Hlex.out, HL1.out]; exact HE.out, (((hB2.setCell (Nat.le_refl _) _).setCell (Nat.le_refl _) _).setCell (Nat.le_refl _) _).setCell (Nat.le_refl _) _⟩
          | some d =>
            have hwl := word_len s (p + k) (by omega) d hw
            have HE := hide (lex_word s (f - k) (p + k) out hlt hnb.out (by omega) d hw hn2)
            have hdl : (((0 + d.len : Nat) : Int) == 0) = false := by simp; omega
            have hen : endOf (some d) 0 = ((0 + d.len : Nat) : Int) := rfl
            have htk : tokV (some d) 0 = .agg #[.int .i64 d.kind, .int .i64 d.num, .string d.text, .int .i64 0] := rfl
            rw [hen, htk]
            clear hw hen htk
            go_upto_region 13 with fail
            obtain ⟨w3, hw3⟩ : ∃ w3, w3 = (((((w2.setCell ⟨w.heap.size, 0, none⟩ (.int .i64 d.kind)).setCell ⟨w.heap.size, 1, none⟩ (.int .i64 d.num)).setCell ⟨w.heap.size, 2, none⟩ (.string d.text)).setCell ⟨w.heap.size, 3, none⟩ (.int .i64 0)).setCell ⟨w.heap.size, 3, none⟩ (.int .i64 ((p : Int) + (k : Int)))) := ⟨_, rfl⟩
            rw [← hw3]
            obtain ⟨hbx3, hown3, hB3, hz3⟩ := tok_set hw3 Hbx2.out hown2 hB2 hz2'
            have d0 := cell_of_blk hbx3 0
            have d1 := cell_of_blk hbx3 1
            have d2 := cell_of_blk hbx3 2
            have d3 := cell_of_blk hbx3 3
            simp at d0 d1 d2 d3
            have Hbx3 := hide hbx3
            clear hw3 hbx3 c0 c1 c2 c3 f0 Hbx2 hown2 hB2 hdl hend hn
            have hB4 : Below w.heap.size w (w3.alloc (.cells #[.int .i64 d.kind, .int .i64 d.num, .string d.text, .int .i64 ((p : Int) + (k : Int))] 44)) := hB3.alloc hB3.size _
            go_wp2_with (at_builtin; refine wpList_append_own _ rfl _ _ 28 rfl (w.heap.size + 1) 44 i0 (.agg #[.int .i64 0, .int .i64 0, .string ⟨#[]⟩, .int .i64 0]) 4 40 Tryd.underlying28 hi hz0 hz1 hz2 rfl (by decide) _ _ _ rfl (hown3.alloc _) ⟨w3.heap.size, 0, none⟩ 1 1 (tokC (d, p + k)) rfl rfl ?c1 ?c2 ?c3 ?c4 ?c5 ?_)
            case c1 => exact tokC_cells (d, p + k) (heap_alloc_new w3 (.cells #[.int .i64 d.kind, .int .i64 d.num, .string d.text, .int .i64 ((p + k : Nat) : Int)] 44))
            case c2 => exact tokC_one _
            case c3 => unfold maxLen; omega
            case c4 => omega
            case c5 => simp; omega
            intro v' w4 hown4 hgrow _
            have HB4 := hB4.grown hgrow (by simp; omega) (fun g hg => by have := (hown3.lt g hg).1; omega)
            have HX : w4.heap[w.heap.size]? = some (.cells #[.int .i64 d.kind, .int .i64 d.num, .string d.text, .int .i64 ((p : Int) + (k : Int))] 44) := by
              rw [hgrow.block w.heap.size (by simp; omega) (fun e => by have := (hown3.lt _ e.symm).1; omega), Below.heap_alloc _ _ _ (by omega)]
              exact Hbx3.out
            have HO : w4.ownsRow (w.heap.size + 1) 44 4 v' (out ++ [(d, p + k)]).length (toksC (out ++ [(d, p + k)])) := by rw [toksC_snoc, List.length_append]; exact hown4
            have HOh := hide HO
            have HXh := hide HX
            clear hown4 hgrow hown3 hB3 hB4 HO HX Hbx3 d0 d1 d2 d3
            go_wp2_with fail
            go_step3
            show JL s w 0 _ _
            exact JL_btw (p := p + k + d.len) (v := v') ⟨_, _, _, _, _, _, _, _, _, _, _, _, _, _, _, _, _, _, _, _, _, _, _, _, _, _, _, _, _, _, _, _, _, _, rfl⟩ ⟨f - k - 1, out ++ [(d, p + k)], by omega, by omega, by simp; omega, by rw [← HE.out, ← HL1.out]; exact Hlex.out, HOh.out, ⟨_, _, _, _, HXh.out⟩, HB4⟩
    · rintro a' w' ⟨v, p, z, u12, u13, u14, u15, u16, u17, u18, u19, u20, u21, u22, u23, u24, u25, u26, u27, u28, u29, u30, u31, u32, u33, u34, u35, u36, u37, u38, u39, u40, u41, u42, u43, u44, rfl, ⟨-, hJ⟩ | ⟨h01, -⟩⟩
      · skip
        obtain ⟨f, out, hp, hf, hlen, hlex, hown, ⟨tk, tn, tt, ta, hbx⟩, hB⟩ := hJ
        have Hlex := hide hlex
        have Hbx := hide hbx
        clear hlex hbx
        obtain ⟨ad, cp, rfl⟩ := own_form hown
        have hlen' : (out.length : Int) ≤ 120 := by omega
        have hp' : (p : Int) ≤ (s.size : Int) := by omega
        go_wp2_with fail
        refine (run_isBlank (s.extract p s.size) _ (by unfold maxLen; simp; omega)).mono ?_
        rintro e w1 ⟨rfl, hb1⟩
        rw [runFrom_shift blkB s p hp]
        have hkle := runFrom_le blkB s p hp
        have HL1 := hide (lex_run s (runFrom blkB s p) f p out rfl hf)
        have HR := hide (run_stop blkB s p hp)
        obtain ⟨k, hk⟩ : ∃ k, k = runFrom blkB s p := ⟨_, rfl⟩
        rw [← hk] at hkle HL1 HR ⊢
        clear hk
        have hown1 := own_kept hown hb1
        have hB1 : Below w.heap.size w w1 := hB.trans (hb1.mono hB.size)
        have hlt0 : w.heap.size < w'.heap.size := (Array.getElem?_eq_some_iff.1 Hbx.out).1
        have hbx1 : Hid (w1.heap[w.heap.size]? = some (.cells #[.int .i64 tk, .int .i64 tn, .string tt, .int .i64 ta] 44)) := (hb1.block _ hlt0).trans Hbx.out
        have hz1' : w.heap.size + 1 ≤ w1.heap.size := by have := hb1.size; omega
        clear hown hb1 hB Hbx
        by_cases hend : ((p : Int) + (k : Int) == (s.size : Int)) = true
        · have HE := hide (lex_end s (f - k) (p + k) out (by simp at hend; omega))
          go_wp2_with fail
          rw [jumps_ret]
          go_ret3
          have e : lexR s = (out, 0, true) := by rw [← Hlex.out, HL1.out]; exact HE.out
          rw [e]
          exact ⟨_, rfl, own_down hown1 (by omega), hB1⟩
        · rw [Bool.not_eq_true] at hend
          have hlt : p + k < s.size := by simp at hend; omega
          have hlt' : (p : Int) + (k : Int) < (s.size : Int) := by omega
          have hnb := hide (HR.out hlt)
          by_cases hn : ((out.length : Int) == 120) = true
          · have HE := hide (lex_many s (f - k) (p + k) out hlt hnb.out (by omega) (by simp at hn; omega))
            go_wp2_with fail
            go_step3
            show JL s w 1 _ _ ∧ _
            exact ⟨JL_fault ⟨_, _, _, _, _, _, _, _, _, _, _, _, _, _, _, _, _, _, _, _, _, _, _, _, _, _, _, _, _, _, _, _, _, _, _, rfl⟩ ⟨by rw [← Hlex.out, HL1.out]; exact HE.out, hB1⟩, by simp [muL]⟩
          · rw [Bool.not_eq_true] at hn
            have hn2 : ¬ out.length = 120 := by simp at hn; omega
            go_wp2_with fail
            refine (wordAhead_any (s.extract (p + k) s.size) _ (by simp; omega)).mono ?_
            rintro e w2 ⟨rfl, hb2⟩
            rw [word_shift s (p + k) (by omega)]
            have hown2 := own_kept hown1 hb2
            have hB2 : Below w.heap.size w w2 := hB1.trans (hb2.mono hB1.size)
            have hbx2 : w2.heap[w.heap.size]? = some (.cells #[.int .i64 tk, .int .i64 tn, .string tt, .int .i64 ta] 44) := (hb2.block _ (by omega)).trans hbx1.out
            have hz2' : w.heap.size + 1 ≤ w2.heap.size := by have := hb2.size; omega
            have c0 := cell_of_blk hbx2 0
            have c1 := cell_of_blk hbx2 1
            have c2 := cell_of_blk hbx2 2
            have c3 := cell_of_blk hbx2 3
            have f0 := unfrozen_of_blk hbx2
            have Hbx2 := hide hbx2
            clear hown1 hB1 hb2 hbx1 hbx2
            simp at c0 c1 c2 c3
            cases hw : wordAt s (p + k) with
            | none =>
              have HE := hide (lex_bad s (f - k) (p + k) out hlt hnb.out (by omega) hw)
              clear hw
              simp only [tokV, endOf]
              go_wp2_with fail
              go_step3
              show JL s w 1 _ _ ∧ _
              exact ⟨JL_fault ⟨_, _, _, _, _, _, _, _, _, _, _, _, _, _, _, _, _, _, _, _, _, _, _, _, _, _, _, _, _, _, _, _, _, _, _, rfl⟩ ⟨by rw [← Hlex.out, HL1.out]; exact HE.out, (((hB2.setCell (Nat.le_refl _) _).setCell (Nat.le_refl _) _).setCell (Nat.le_refl _) _).setCell (Nat.le_refl _) _⟩, by simp [muL]⟩
            | some d =>
              have hwl := word_len s (p + k) (by omega) d hw
              have HE := hide (lex_word s (f - k) (p + k) out hlt hnb.out (by omega) d hw hn2)
              have hdl : (((0 + d.len : Nat) : Int) == 0) = false := by simp; omega
              have hen : endOf (some d) 0 = ((0 + d.len : Nat) : Int) := rfl
              have htk : tokV (some d) 0 = .agg #[.int .i64 d.kind, .int .i64 d.num, .string d.text, .int .i64 0] := rfl
              rw [hen, htk]
              clear hw hen htk
              go_upto_region 13 with fail
              obtain ⟨w3, hw3⟩ : ∃ w3, w3 = (((((w2.setCell ⟨w.heap.size, 0, none⟩ (.int .i64 d.kind)).setCell ⟨w.heap.size, 1, none⟩ (.int .i64 d.num)).setCell ⟨w.heap.size, 2, none⟩ (.string d.text)).setCell ⟨w.heap.size, 3, none⟩ (.int .i64 0)).setCell ⟨w.heap.size, 3, none⟩ (.int .i64 ((p : Int) + (k : Int)))) := ⟨_, rfl⟩
              rw [← hw3]
              obtain ⟨hbx3, hown3, hB3, hz3⟩ := tok_set hw3 Hbx2.out hown2 hB2 hz2'
              have d0 := cell_of_blk hbx3 0
              have d1 := cell_of_blk hbx3 1
              have d2 := cell_of_blk hbx3 2
              have d3 := cell_of_blk hbx3 3
              simp at d0 d1 d2 d3
              have Hbx3 := hide hbx3
              clear hw3 hbx3 c0 c1 c2 c3 f0 Hbx2 hown2 hB2 hdl hend hn
              have hB4 : Below w.heap.size w (w3.alloc (.cells #[.int .i64 d.kind, .int .i64 d.num, .string d.text, .int .i64 ((p : Int) + (k : Int))] 44)) := hB3.alloc hB3.size _
              go_wp2_with (at_builtin; refine wpList_append_own _ rfl _ _ 28 rfl (w.heap.size + 1) 44 i0 (.agg #[.int .i64 0, .int .i64 0, .string ⟨#[]⟩, .int .i64 0]) 4 40 Tryd.underlying28 hi hz0 hz1 hz2 rfl (by decide) _ _ _ rfl (hown3.alloc _) ⟨w3.heap.size, 0, none⟩ 1 1 (tokC (d, p + k)) rfl rfl ?c1 ?c2 ?c3 ?c4 ?c5 ?_)
              case c1 => exact tokC_cells (d, p + k) (heap_alloc_new w3 (.cells #[.int .i64 d.kind, .int .i64 d.num, .string d.text, .int .i64 ((p + k : Nat) : Int)] 44))
              case c2 => exact tokC_one _
              case c3 => unfold maxLen; omega
              case c4 => omega
              case c5 => simp; omega
              intro v' w4 hown4 hgrow _
              have HB4 := hB4.grown hgrow (by simp; omega) (fun g hg => by have := (hown3.lt g hg).1; omega)
              have HX : w4.heap[w.heap.size]? = some (.cells #[.int .i64 d.kind, .int .i64 d.num, .string d.text, .int .i64 ((p : Int) + (k : Int))] 44) := by
                rw [hgrow.block w.heap.size (by simp; omega) (fun e => by have := (hown3.lt _ e.symm).1; omega), Below.heap_alloc _ _ _ (by omega)]
                exact Hbx3.out
              have HO : w4.ownsRow (w.heap.size + 1) 44 4 v' (out ++ [(d, p + k)]).length (toksC (out ++ [(d, p + k)])) := by rw [toksC_snoc, List.length_append]; exact hown4
              have HOh := hide HO
              have HXh := hide HX
              clear hown4 hgrow hown3 hB3 hB4 HO HX Hbx3 d0 d1 d2 d3
              go_wp2_with fail
              go_step3
              show JL s w 0 _ _ ∧ _
              exact ⟨JL_btw (p := p + k + d.len) (v := v') ⟨_, _, _, _, _, _, _, _, _, _, _, _, _, _, _, _, _, _, _, _, _, _, _, _, _, _, _, _, _, _, _, _, _, _, rfl⟩ ⟨f - k - 1, out ++ [(d, p + k)], by omega, by omega, by simp; omega, by rw [← HE.out, ← HL1.out]; exact Hlex.out, HOh.out, ⟨_, _, _, _, HXh.out⟩, HB4⟩, by simp [muL, intOf]; omega⟩
      · omega
    · rintro a' w' ⟨v, p, z, u12, u13, u14, u15, u16, u17, u18, u19, u20, u21, u22, u23, u24, u25, u26, u27, u28, u29, u30, u31, u32, u33, u34, u35, u36, u37, u38, u39, u40, u41, u42, u43, u44, rfl, ⟨h01, -⟩ | ⟨-, hJ⟩⟩
      · omega
      · obtain ⟨he, hB⟩ := hJ
        have He := hide he
        clear he
        go_wp2_with fail
        rw [jumps_ret]
        go_ret3
        rw [He.out]
        exact ⟨_, rfl, World.ownsRow_nil _ _ _ _, hB⟩
end Go.Proofs.YtmnicilgenpnfaaDoor.W

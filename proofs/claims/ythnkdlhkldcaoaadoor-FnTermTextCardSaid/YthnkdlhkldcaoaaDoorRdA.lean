/-
  What the program's reader of cells leans on: Atoi at any text, the cell that it tells of a word, and that it is the right one wherever there is one. Conditions: the library's variables hold a number, two errors, and the table of powers of ten.
-/
import Derived.Test.YthnkdlhkldcaoaaDoorRdP
namespace Go.Proofs.YthnkdlhkldcaoaaDoor.W
open Go.ChangeShapes Go.WideShapes Go.ChangeAt Go.RowKit
set_option linter.unusedVariables false

/-- What the library's variables hold. -/
structure VR (w : World) : Prop where
  tab : Tab w
  len : ∃ m, w.cell? ⟨0, 0, none⟩ = some (.int .i64 m)
  syn : ∃ ev, w.cell? ⟨1, 0, none⟩ = some ev ∧ (ev = .nilIface ∨ ∃ te pe, ev = .iface te pe)
  rng : ∃ ev, w.cell? ⟨2, 0, none⟩ = some ev ∧ (ev = .nilIface ∨ ∃ te pe, ev = .iface te pe)
theorem lt_of_cell {w : World} {b o : Nat} {v : Value} (h : w.cell? ⟨b, o, none⟩ = some v) : b < w.heap.size := World.block_lt_of_cell? _ _ h
theorem VR.below {w w' : World} (h : VR w) (hb : Below w.heap.size w w') : VR w' := by
  obtain ⟨m, hm⟩ := h.len
  obtain ⟨ev, h1, h2⟩ := h.syn
  obtain ⟨er, h3, h4⟩ := h.rng
  exact ⟨h.tab.below hb, ⟨m, (hb.cell (p := ⟨0, 0, none⟩) (lt_of_cell hm)).trans hm⟩, ⟨ev, (hb.cell (p := ⟨1, 0, none⟩) (lt_of_cell h1)).trans h1, h2⟩, ⟨er, (hb.cell (p := ⟨2, 0, none⟩) (lt_of_cell h3)).trans h3, h4⟩⟩
/-- Atoi at any text. -/
theorem Atoi_any (s : ByteArray) (w : World) (hs : s.size ≤ 2000) (hv : VR w) :
    (∃ v : Int, Lib.atoiAll s.data.toList = .ok v ∧ Calls Tryd.prog 35 #[.string s] w fun e w' => e = .returned (.tuple #[.int .i64 v, .nilIface]) ∧ Below w.heap.size w w') ∨
    ((∀ v : Int, Lib.atoiAll s.data.toList ≠ .ok v) ∧ Calls Tryd.prog 35 #[.string s] w fun e w' => ∃ (n : Int) (N : Nat), e = .returned (.tuple #[.int .i64 n, .iface 96 (.pointer (some ⟨N, 0, none⟩))]) ∧ Below w.heap.size w w') := by
  cases h : Lib.atoiAll s.data.toList with
  | ok v =>
    refine .inl ⟨v, rfl, (Tryd.strconv_Atoi_ok s (by omega) v h w).mono ?_⟩
    rintro e w' ⟨rfl, rfl | ⟨t, rfl⟩⟩
    · exact ⟨rfl, Below.refl _ _⟩
    · exact ⟨rfl, Lib.bytesWorld_below _ _ _⟩
  | «syntax» =>
    obtain ⟨ev, h1, h2⟩ := hv.syn
    refine .inr ⟨fun v e => (by cases e), (Tryd.strconv_Atoi_syntax s (by omega) h ev w h1 h2).mono ?_⟩
    rintro e w' ⟨N, rfl, -, -, hb⟩
    exact ⟨_, N, rfl, hb⟩
  | range =>
    obtain ⟨ev, h1, h2⟩ := hv.rng
    refine .inr ⟨fun v e => (by cases e), (Tryd.strconv_Atoi_range s (by omega) h ev w h1 h2).mono ?_⟩
    rintro e w' ⟨N, rfl, -, -, hb⟩
    exact ⟨_, N, rfl, hb⟩

/-- The signs of terms. -/
def tsg : List UInt8 := [92, 64, 43, 63, 61]
/-- The cell that the program tells of a word. -/
def prg (L : List UInt8) : Cc :=
  if 0 ≤ Lib.index tsg L ∧ L.length = 1 then ⟨3 + Lib.index tsg L, 0⟩ else
  match Lib.atoiAll (Lib.trimPrefix L [118]) with
  | .ok v => if Lib.hasPrefix L [118] = true then ⟨1, v⟩ else ⟨2, v⟩
  | _ => ⟨0, 0⟩
theorem idx_one (b : UInt8) : Lib.index tsg [b] = if b = 92 then 0 else if b = 64 then 1 else if b = 43 then 2 else if b = 63 then 3 else if b = 61 then 4 else -1 := by
  unfold tsg
  simp only [Lib.index, List.isPrefixOf, Bool.and_true, List.isEmpty]
  by_cases h1 : b = 92
  · subst h1; rfl
  by_cases h2 : b = 64
  · subst h2; rfl
  by_cases h3 : b = 43
  · subst h3; rfl
  by_cases h4 : b = 63
  · subst h4; rfl
  by_cases h5 : b = 61
  · subst h5; rfl
  simp [h1, h2, h3, h4, h5]
theorem prg_of {x : Cc} (h : goodC x = true) : prg (wdL x) = x := by
  obtain ⟨h1, h2⟩ := good_n' h
  have hin := good_ar h
  have hg := h
  obtain ⟨k, n⟩ := x
  simp only [inB, Bool.and_eq_true, decide_eq_true_eq] at hin h1 h2
  have hx : k = 1 ∨ k = 2 ∨ k = 3 ∨ k = 4 ∨ k = 5 ∨ k = 6 ∨ k = 7 := by omega
  have hit := atoi_itoa (n := n) (by omega) (by omega)
  obtain ⟨b, r, e, hb⟩ := itoa_head n
  rcases hx with rfl | rfl | rfl | rfl | rfl | rfl | rfl
  · have e1 : wdL ⟨1, n⟩ = 118 :: Lib.itoa n := by
      show ((⟨#[118]⟩ : ByteArray) ++ itB n).data.toList = _
      simp [itB]
    rw [e1]
    unfold prg
    rw [if_neg (by rw [e]; simp)]
    have ht : Lib.trimPrefix (118 :: Lib.itoa n) [118] = Lib.itoa n := by simp [Lib.trimPrefix, Lib.hasPrefix]
    have hp : Lib.hasPrefix (118 :: Lib.itoa n) [118] = true := by simp [Lib.hasPrefix]
    rw [ht, hit, hp]
    rfl
  · have e1 : wdL ⟨2, n⟩ = Lib.itoa n := by
      show (itB n).data.toList = _
      simp [itB]
    rw [e1]
    have hne : ∀ c : UInt8, (c.toNat ≠ 45 ∧ ¬ (48 ≤ c.toNat ∧ c.toNat ≤ 57)) → ¬ b = c := by
      rintro c hc rfl
      rcases hb with hb | hb
      · exact hc.1 hb
      · exact hc.2 hb
    have hp : Lib.hasPrefix (Lib.itoa n) [118] = false := by
      rw [e]
      have := hne 118 (by decide)
      show [118].isPrefixOf (b :: r) = false
      simp only [List.isPrefixOf]
      rw [beq_eq_false_iff_ne.2 (fun e => this e.symm)]
      rfl
    have ht : Lib.trimPrefix (Lib.itoa n) [118] = Lib.itoa n := by unfold Lib.trimPrefix; rw [hp]; rfl
    unfold prg
    rw [if_neg, ht, hit, hp]
    · rfl
    · rintro ⟨i1, i2⟩
      rw [e] at i1 i2
      have hr : r = [] := List.eq_nil_of_length_eq_zero (by simpa using i2)
      rw [hr, idx_one, if_neg (hne 92 (by decide)), if_neg (hne 64 (by decide)), if_neg (hne 43 (by decide)), if_neg (hne 63 (by decide)), if_neg (hne 61 (by decide))] at i1
      exact absurd i1 (by decide)
  all_goals
    have h0 : n = 0 := by
      simp [goodC] at hg
      first | exact hg | exact hg.2 | omega
    subst h0
    rfl
/-- What it tells beside it. -/
def prB (L : List UInt8) : Bool := goodC (prg L) && decide (wdL (prg L) = L)
theorem prB_yes {L : List UInt8} (h : prB L = true) : dcell L = some (prg L) ∧ goodC (prg L) = true := by
  unfold prB at h
  simp only [Bool.and_eq_true, decide_eq_true_eq] at h
  have := dcell_of h.1
  rw [h.2] at this
  exact ⟨this, h.1⟩
theorem prB_no {L : List UInt8} (h : prB L = false) : ∀ y, dcell L = some y → goodC y = false := by
  intro y hy
  cases hg : goodC y with
  | false => rfl
  | true =>
    have h1 := dcell_is hy
    have h2 := prg_of hg
    rw [h1] at h2
    unfold prB at h
    rw [h2, hg, h1] at h
    simp at h
theorem idx_bd (L : List UInt8) : -1 ≤ Lib.index tsg L ∧ Lib.index tsg L ≤ 5 := by
  refine ⟨Lib.index_ge _ _, ?_⟩
  by_cases h : 0 ≤ Lib.index tsg L
  · have := Lib.index_room tsg L h
    have h5 : tsg.length = 5 := rfl
    omega
  · omega
end Go.Proofs.YthnkdlhkldcaoaaDoor.W

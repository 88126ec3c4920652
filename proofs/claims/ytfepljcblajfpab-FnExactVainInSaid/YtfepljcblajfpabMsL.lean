/-
  The map with one text more. No program here. Written by wip/build/mk_msk.py.
-/
import Derived.Test.YtfepljcblajfpabMsK
namespace Go.Proofs.Ytfepljcblajfpab.W
open Go.ChangeShapes Go.WideShapes Go.ChangeAt Go.RowKit
open Go.Maps
set_option linter.unusedVariables false
set_option linter.unusedSimpArgs false

theorem own_tight {H : Type} {P : Program} {k : TypeId} {R : Value → Option (DataW H × List MemPlace)} {w : World} {b n m : Nat} {D : DataW H} (h : w.ownsMap P k R b n D) (hm : Maps.size D ≤ m) : w.ownsMap P k R b m D := by
  obtain ⟨es, clock, hb, F, hs, rfl⟩ := h
  exact ⟨es, clock, hb, F, by simpa [Maps.size, length_sorted] using hm, rfl⟩
theorem wr_lens {D : List Int} {a : F} {R : List F} (h : WR D a R) : a.len ≤ 1000 := by
  have := F.len_flat a
  have := h.big
  omega
theorem codes_few {D : List Int} {A0 : List Pt} {R0 : List (List Pt)} (hA : A0.length ≤ 40) (hR : ∀ b ∈ R0, b.length ≤ 40) (h8 : R0.length ≤ 8) {cs : List Nat} (hn : cs.Nodup) (hc : ∀ n ∈ cs, ∃ a R, WR D a R ∧ Re A0 R0 a R n) : cs.length < maxLen := by
  have h1 := nodup_le 400000000000000000 cs hn (fun n hn' => by
    obtain ⟨a, R, h1, h2⟩ := hc n hn'
    exact h2.lt (D := D) hA hR h8 (wr_lens h1))
  unfold maxLen
  omega
theorem KM.put {D : List Int} {A0 : List Pt} {R0 : List (List Pt)} (hd : D.length ≤ 4) (hA : A0.length ≤ 40) (hR0 : ∀ b ∈ R0, b.length ≤ 40) {w1 : World} {MB : Nat} {a : F} {R : List F} {DD : DataW Unit} {cs : List Nat} {n0 : Nat} {d : DataW Unit}
    (htd : Tidy DD) (hsz : Maps.size DD ≤ cs.length) (hnd : cs.Nodup) (hcs : ∀ n ∈ cs, ∃ a R, WR D a R ∧ Re A0 R0 a R n ∧ Maps.has DD (.string (kB a R)) = true) (hhas : ∀ s, Maps.has DD (.string s) = true → ∃ a R, WR D a R ∧ wn D a R = none ∧ s = kB a R)
    (hw : WR D a R) (hre : Re A0 R0 a R n0) (hwn : wn D a R = none) (hown : w1.ownsMap Try.prog 9 (plainElem Try.prog 3) MB (cs.length + 1) (DD.put (.string (kB a R)) d)) : KM D A0 R0 w1 MB := by
  have hps : ∀ s, Maps.has (DD.put (.string (kB a R)) d) (.string s) = true ↔ s = kB a R ∨ Maps.has DD (.string s) = true := by
    intro s
    by_cases e : s = kB a R
    · subst e
      rw [has_put_same htd.isMap (by trivial)]; simp
    · rw [has_put_other (by simpa using e)]; simp [e]
  have hfin : ∀ s, Maps.has (DD.put (.string (kB a R)) d) (.string s) = true → ∃ a R, WR D a R ∧ wn D a R = none ∧ s = kB a R := by
    intro s hs
    rcases (hps s).1 hs with e | e
    · exact ⟨a, R, hw, hwn, e⟩
    · exact hhas s e
  have hold : ∀ n ∈ cs, ∃ a' R', WR D a' R' ∧ Re A0 R0 a' R' n ∧ Maps.has (DD.put (.string (kB a R)) d) (.string (kB a' R')) = true := by
    intro n hn
    obtain ⟨a', R', h1, h2, h3⟩ := hcs n hn
    exact ⟨a', R', h1, h2, (hps _).2 (.inr h3)⟩
  cases hh : Maps.has DD (.string (kB a R)) with
  | true =>
    refine ⟨_, cs, own_tight hown ?_, htd.put (by trivial) _, hnd, hold, hfin⟩
    rw [size_put htd, hh, if_pos rfl]
    exact hsz
  | false =>
    refine ⟨_, n0 :: cs, by simpa using hown, htd.put (by trivial) _, List.nodup_cons.2 ⟨fun hin => ?_, hnd⟩, ?_, hfin⟩
    · obtain ⟨a', R', h1, h2, h3⟩ := hcs n0 hin
      obtain ⟨rfl, rfl⟩ := hre.one hA hR0 h2 hw h1 (wr_lens hw) (wr_lens h1)
      rw [hh] at h3
      cases h3
    · intro n hn
      rcases List.mem_cons.1 hn with rfl | hn
      · exact ⟨a, R, hw, hre, (hps _).2 (.inl rfl)⟩
      · exact hold n hn
theorem kS_size (ns : List Nat) : (kS ns).size = ns.length := by
  have := congrArg List.length (kS_data ns)
  simpa using this
end Go.Proofs.Ytfepljcblajfpab.W

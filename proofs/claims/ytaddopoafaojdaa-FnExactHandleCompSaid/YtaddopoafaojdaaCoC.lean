/-
  A computation cut from what is behind it: the contract of cutComp. Conditions: at most 1048576 cells.
-/
import Derived.Test.YtaddopoafaojdaaCoT
import Derived.Deep.RegionHeld3
namespace Go.Proofs.Ytaddopoafaojdaa.C
open Go.Proofs.Ytaddopoafaojdaa.W
open Go.ChangeShapes Go.WideShapes Go.ChangeAt Go.RowKit
set_option linter.unusedVariables false

/-- A row of cells that lies in block b, or none. -/
def CRowB (w : World) (b : Nat) (ad : Option Addr) (l : List Cc) : Prop := l = [] ∨ ∃ o, ad = some ⟨b, o, none⟩ ∧ CRowAt w b o l

theorem CRowB.row {w : World} {b : Nat} {ad : Option Addr} {l : List Cc} (h : CRowB w b ad l) : CRow w ad l := by
  rcases h with h | ⟨o, h1, h2⟩
  · exact .inl h
  · exact .inr ⟨b, o, h1, h2⟩

theorem CRowB.turn {w w' : World} {b : Nat} {ad : Option Addr} {l : List Cc} (h : CRowB w b ad l) (he : w'.heap[b]? = w.heap[b]?) : CRowB w' b ad l := by
  rcases h with h | ⟨o, h1, h2, h3⟩
  · exact .inl h
  · refine .inr ⟨o, h1, ?_, fun i hi => ?_⟩
    · rw [Array.getElem?_eq_getElem h2] at he
      exact (Array.getElem?_eq_some_iff.1 he).1
    · obtain ⟨c0, c1⟩ := h3 i hi
      exact ⟨(World.cell?_of_block (a := ⟨b, o + i * 2, none⟩) he).trans c0, (World.cell?_of_block (a := ⟨b, o + i * 2 + 1, none⟩) he).trans c1⟩

theorem CRowB.of {w : World} {ad : Option Addr} {l : List Cc} (h : CRow w ad l) : ∃ b, CRowB w b ad l := by
  rcases h with h | ⟨b, o, h1, h2⟩
  · exact ⟨0, .inl h⟩
  · exact ⟨b, .inr ⟨o, h1, h2⟩⟩

set_option maxRecDepth 20000 in
set_option maxHeartbeats 2000000 in
theorem cutComp_any (b o c : Nat) (l : List Cc) (n : Nat) (w : World) (hl : l.length ≤ 1048576) (hc : l.length ≤ c) (hz : sz l 1 0 = some n) (hn : n ≤ l.length) (h : CRowAt w b o l) :
    Calls Try.prog 41 #[.slice (some ⟨b, o, none⟩) l.length c] w fun e w' => ∃ q, e = .returned (.tuple #[.slice (some ⟨b, o, none⟩) n c, .slice (some ⟨b, q, none⟩) (l.length - n) (c - n)]) ∧ (n < l.length → q = o + n * 2) ∧ Below w.heap.size w w' := by
  have HR : Hid (CRow w (some ⟨b, o, none⟩) l) := hide (.inr ⟨b, o, rfl, h⟩)
  have HZ := hide hz
  clear h hz
  go_enter Try.func41, Try.ntmps41
  go_wp2_with fail
  go_loopw [4, 5] (fun i m w' => ∃ (j M : Nat), j ≤ l.length ∧ M ≤ 2 * j + 1 ∧ i = .int .i64 j ∧ m = .int .i64 M ∧ sz (l.drop j) M j = some n ∧ Below w.heap.size w w') (fun i _ _ => l.length - (intOf i).toNat)
  case atStart => exact ⟨0, 1, by omega, by omega, rfl, rfl, HZ.out, Below.refl _ _⟩
  case round =>
    obtain ⟨j, M, hj, hM, rfl, rfl, hs, hB⟩ := hrel
    by_cases hM0 : M = 0
    · subst hM0
      rw [sz_0] at hs
      simp only [Option.some.injEq] at hs
      subst hs
      have h1 : (0 : Int) ≤ (j : Int) := by omega
      have h2 : (j : Int) ≤ (l.length : Int) := by omega
      have h3 : (l.length : Int) ≤ (c : Int) := by omega
      have h4 : (j : Int) ≤ (c : Int) := by omega
      clear hM HZ
      by_cases hcj : c = j
      · obtain rfl : c = l.length := by omega
        subst hcj
        go_wp2_with fail
        go_quiet (fail)
        go_wp2_with fail
        exact bodyPost_ret (v := .tuple #[.slice (some ⟨b, o, none⟩) l.length l.length, .slice (some ⟨b, o, none⟩) (l.length - l.length) (l.length - l.length)]) (by simp [results, Try.results41, go_sem]) rfl ⟨o, rfl, fun h => absurd h (Nat.lt_irrefl _), ⟨hB.os, hB.tape, hB.output, hB.size, hB.block⟩⟩
      · go_wp2_with fail
        go_quiet (fail)
        go_wp2_with fail
        exact bodyPost_ret (v := .tuple #[.slice (some ⟨b, o, none⟩) j c, .slice (some ⟨b, o + j * 2, none⟩) (l.length - j) (c - j)]) (by simp [results, Try.results41, go_sem]) rfl ⟨_, rfl, fun _ => rfl, ⟨hB.os, hB.tape, hB.output, hB.size, hB.block⟩⟩
    · have hMi : (0 : Int) < (M : Int) := by omega
      have hlt : j < l.length := by
        rcases Nat.lt_or_ge j l.length with h | h
        · exact h
        · rw [List.drop_eq_nil_of_le h, sz, if_neg hM0] at hs; cases hs
      have hlt' : (j : Int) < (l.length : Int) := by omega
      obtain ⟨b', o', he, hb, p0, p1⟩ := HR.out.tok hB hlt
      simp only [Option.some.injEq, Addr.mk.injEq] at he
      obtain ⟨rfl, rfl, -⟩ := he
      have hd : l.drop j = l[j] :: l.drop (j + 1) := List.drop_eq_getElem_cons hlt
      obtain ⟨x, hx⟩ : ∃ x, x = l[j] := ⟨_, rfl⟩
      rw [← hx] at p0 p1 hd
      rw [hd, sz, if_neg hM0] at hs
      have hg : goodC x = true := by
        cases hg : goodC x with
        | true => rfl
        | false => rw [hg] at hs; simp at hs
      rw [if_pos hg] at hs
      have HSz := hide hs
      clear hs hd hx hg
      go_wp2_with fail
      refine (behind_any x _).mono ?_
      rintro e w2 ⟨rfl, hb2⟩
      have hB2 : Below w.heap.size w w2 := hB.trans (hb2.mono hB.size)
      clear hb2
      have hle := ar_le x.k
      obtain ⟨R, hR⟩ : ∃ R, R = ar x.k := ⟨_, rfl⟩
      rw [← hR] at HSz hle ⊢
      clear hR p0 p1
      go_wp2_with fail
      refine ⟨⟨j + 1, M - 1 + R, by omega, by omega, by go_num, by go_num, HSz.out, hB2⟩, by simp [intOf]; omega⟩

theorem Tr.sz (t : Tr) (h : t.ok) (r : List Cc) : sz (t.flat ++ r) 1 0 = some t.flat.length := by
  obtain ⟨h1, h2, h3⟩ := t.fok h
  have := sz_flat (.cons t.x t.k .nil) r 0 0 ⟨h1, h2, h3, trivial⟩
  simp only [F.flat, List.append_nil, Tr.flat_x, F.len, Nat.zero_add] at this
  rw [this, sz_0]
end Go.Proofs.Ytaddopoafaojdaa.C

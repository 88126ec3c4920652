/-
  The program's map of rows for which nothing was found; what stays beside it. No program here. Written by wip/build/mk_msk.py.
-/
import Derived.Test.YtfepljcblajfpabMsF
import Derived.Test.YtfepljcblajfpabMsH
import Derived.Test.YtfepljcblajfpabMsN
import Derived.Maps.OwnSet
import Derived.StringKeys
namespace Go.Proofs.Ytfepljcblajfpab.W
open Go.ChangeShapes Go.WideShapes Go.ChangeAt Go.RowKit
open Go.Maps
set_option linter.unusedVariables false
set_option linter.unusedSimpArgs false

theorem lawS : Keyed Try.prog 9 := string_keyed Try.underlying9
theorem zeroI (w : World) : (zeroValue 3).run Try.prog w = .ok (.int .i64 0) w := by kernel_rfl
def kB (a : F) (R : List F) : List UInt8 := (kS (ky a R)).data.toList
theorem kB_eq (a : F) (R : List F) : kB a R = (ky a R).map UInt8.ofNat := kS_data _
theorem wr_good {D : List Int} {a : F} {R : List F} (h : WR D a R) : ∀ l ∈ R.map F.flat ++ [a.flat], ∀ x ∈ l, goodC D x = true := by
  intro l hl
  simp only [List.mem_append, List.mem_map, List.mem_singleton] at hl
  rcases hl with ⟨b, hb, rfl⟩ | rfl
  · exact flat_good (h.oks b hb).1
  · exact flat_good h.ok
theorem wr_len {D : List Int} {a : F} {R : List F} (h : WR D a R) : ∀ l ∈ R.map F.flat ++ [a.flat], l.length ≤ 1000 := by
  intro l hl
  simp only [List.mem_append, List.mem_map, List.mem_singleton] at hl
  rcases hl with ⟨b, hb, rfl⟩ | rfl
  · have := h.bigs b hb; omega
  · have := h.big; omega
theorem kB_inj {D : List Int} (hd : D.length ≤ 4) {a a' : F} {R R' : List F} (h : WR D a R) (h' : WR D a' R') (e : kB a R = kB a' R') : a = a' ∧ R = R' := by
  refine ky_inj hd h h' (kS_inj (kyL_lt hd (wr_good h)) (kyL_lt hd (wr_good h')) ?_)
  have e2 : (kS (ky a R)).data = (kS (ky a' R')).data := by
    have := congrArg List.toArray e
    simpa [kB] using this
  cases h1 : kS (ky a R) with
  | mk d1 =>
    cases h2 : kS (ky a' R') with
    | mk d2 =>
      rw [h1, h2] at e2
      rw [show d1 = d2 from e2]
/-- The map holds the texts of rows for which nothing is found. -/
def KM (D : List Int) (A0 : List Pt) (R0 : List (List Pt)) (w : World) (MB : Nat) : Prop := ∃ (DD : DataW Unit) (cs : List Nat), w.ownsMap Try.prog 9 (plainElem Try.prog 3) MB cs.length DD ∧ Tidy DD ∧ cs.Nodup ∧
  (∀ n ∈ cs, ∃ a R, WR D a R ∧ Re A0 R0 a R n ∧ Maps.has DD (.string (kB a R)) = true) ∧ ∀ s, Maps.has DD (.string s) = true → ∃ a R, WR D a R ∧ wn D a R = none ∧ s = kB a R
theorem KM.made (D : List Int) (A0 : List Pt) (R0 : List (List Pt)) (w : World) : KM D A0 R0 (w.alloc (.map #[] 0)) w.heap.size :=
  by
  refine ⟨.map [], [], World.ownsMap_made _ _ _ _, tidy_empty, List.nodup_nil, ?_, ?_⟩
  · intro n h
    cases h
  · intro s h
    simp [Maps.has] at h
theorem KM.keep {D : List Int} {A0 : List Pt} {R0 : List (List Pt)} {w w' : World} {MB : Nat} (h : KM D A0 R0 w MB) (hk : w'.heap[MB]? = w.heap[MB]?) : KM D A0 R0 w' MB := by
  obtain ⟨DD, cs, ⟨es, ck, h1, h2⟩, h3⟩ := h
  exact ⟨DD, cs, ⟨es, ck, hk.trans h1, h2⟩, h3⟩
theorem KM.lt {D : List Int} {A0 : List Pt} {R0 : List (List Pt)} {w : World} {MB : Nat} (h : KM D A0 R0 w MB) : MB < w.heap.size := by
  obtain ⟨DD, cs, ⟨es, ck, h1, h2⟩, h3⟩ := h
  exact (Array.getElem?_eq_some_iff.1 h1).1
/-- No cell lies in this block. -/
def NoC (w : World) (MB : Nat) : Prop := ∀ o v, w.cell? ⟨MB, o, none⟩ ≠ some v
theorem KM.noC {D : List Int} {A0 : List Pt} {R0 : List (List Pt)} {w : World} {MB : Nat} (h : KM D A0 R0 w MB) : NoC w MB := by
  obtain ⟨DD, cs, ⟨es, ck, h1, h2⟩, h3⟩ := h
  intro o v hv
  simp [World.cell?, h1] at hv
theorem RRow.oth {α : Type} {z : Nat} {f : α → Nat → Value} {w w' : World} {ad : Option Addr} {l : List α} {MB : Nat} (h : RRow z f w ad l) (hz : 0 < z) (ho : Oth MB w w') (hn : NoC w MB) : RRow z f w' ad l := by
  rcases h with h | ⟨b, o, h1, h2⟩
  · exact .inl h
  · by_cases hl : l = []
    · exact .inl hl
    · have hlp : 0 < l.length := List.length_pos_iff.2 hl
      have hb : b ≠ MB := by
        intro e
        subst e
        exact hn _ _ (h2.2 0 hlp 0 hz)
      refine .inr ⟨b, o, h1, Nat.lt_of_lt_of_le h2.1 ho.size, fun i hi r hr => ?_⟩
      exact (World.cell?_of_block (a := ⟨b, o + i * z + r, none⟩) (ho.block b h2.1 hb)).trans (h2.2 i hi r hr)
theorem PV.oth {w w' : World} {v : Value} {l : List Pt} {MB : Nat} (h : PV w v l) (ho : Oth MB w w') (hn : NoC w MB) : PV w' v l := by
  obtain ⟨ad, c, h1, h2, h3⟩ := h
  exact ⟨ad, c, h1, RRow.oth h2 (by decide) ho hn, h3⟩
theorem DRow.oth {w w' : World} {v : Value} {D : List Int} {MB : Nat} (h : DRow w v D) (ho : Oth MB w w') (hn : NoC w MB) : DRow w' v D := by
  obtain ⟨ad, c, h1, h2, h3⟩ := h
  exact ⟨ad, c, h1, RRow.oth h2 (by decide) ho hn, h3⟩
theorem QV.oth {w w' : World} {v : Value} {L : List (List Pt)} {MB : Nat} (h : QV w v L) (ho : Oth MB w w') (hn : NoC w MB) : QV w' v L := by
  obtain ⟨ad, c, h1, h2, h3⟩ := h
  refine ⟨ad, c, h1, ?_, h3⟩
  rcases h2 with h2 | ⟨b, o, e1, e2, e3⟩
  · exact .inl h2
  · by_cases hl : L = []
    · exact .inl hl
    · have hlp : 0 < L.length := List.length_pos_iff.2 hl
      have hb : b ≠ MB := by
        intro e
        subst e
        obtain ⟨v0, h0, -⟩ := e3 0 hlp
        exact hn _ _ h0
      refine .inr ⟨b, o, e1, Nat.lt_of_lt_of_le e2 ho.size, fun i hi => ?_⟩
      obtain ⟨v0, h0, h1⟩ := e3 i hi
      exact ⟨v0, (World.cell?_of_block (a := ⟨b, o + i, none⟩) (ho.block b e2 hb)).trans h0, h1.oth ho hn⟩
theorem Oth.ofB {MB : Nat} {w w' : World} (h : Below w.heap.size w w') : Oth MB w w' := ⟨h.os, h.tape, h.output, h.size, fun k hk _ => h.block k hk⟩
theorem Oth.trans' {MB : Nat} {w w1 w2 : World} {row : Option Nat} (h : Oth MB w w1) (hg : w1.grownBy w2 row) (hr : ∀ q, row = some q → w.heap.size ≤ q) : Oth MB w w2 := ⟨hg.os.trans h.os, hg.tape.trans h.tape, hg.output.trans h.output, Nat.le_trans h.size hg.size, fun k hk hne => (hg.block k (Nat.lt_of_lt_of_le hk h.size) (fun e => by have := hr k e.symm; omega)).trans (h.block k hk hne)⟩
theorem NoC.keep {w w' : World} {MB : Nat} (h : NoC w MB) (hk : w'.heap[MB]? = w.heap[MB]?) : NoC w' MB := fun o v hv => h o v (by rw [← World.cell?_of_block (a := ⟨MB, o, none⟩) hk]; exact hv)
/-- What within tells. -/
def WiOut (D : List Int) (a : F) (R : List F) (lo : Nat) (w' : World) (e : Ending) : Prop :=
  ∃ ad n cc, e = .returned (.tuple #[.slice ad n cc, .bool (wn D a R).isSome]) ∧ (∀ l, wn D a R = some l → w'.ownsRow lo 67 2 (.slice ad n cc) l.length (rcells 2 Pt.c l)) ∧ (wn D a R = none → ad = none ∧ n = 0 ∧ cc = 0)
theorem WiOut.no {D : List Int} {a : F} {R : List F} {lo : Nat} {w' : World} (h : wn D a R = none) : WiOut D a R lo w' (.returned (.tuple #[.slice none 0 0, .bool false])) := by
  refine ⟨none, 0, 0, ?_, ?_, ?_⟩
  · rw [h]; rfl
  · intro l hl
    rw [h] at hl; cases hl
  · intro _
    exact ⟨rfl, rfl, rfl⟩
theorem WiOut.yes {D : List Int} {a : F} {R : List F} {lo : Nat} {w' : World} {l : List Pt} {ad : Option Addr} {n cc : Nat} (h : wn D a R = some l) (ho : w'.ownsRow lo 67 2 (.slice ad n cc) l.length (rcells 2 Pt.c l)) : WiOut D a R lo w' (.returned (.tuple #[.slice ad n cc, .bool true])) := by
  refine ⟨ad, n, cc, ?_, ?_, ?_⟩
  · rw [h]; rfl
  · intro l' hl
    rw [h] at hl
    simp only [Option.some.injEq] at hl
    subst hl
    exact ho
  · intro h0
    rw [h] at h0; cases h0
/-- What within is handed. -/
structure WiIn (D : List Int) (A0 : List Pt) (R0 : List (List Pt)) (da : Option Addr) (dc MB : Nat) (a : F) (R : List F) (vr vR : Value) (w : World) : Prop where
  wr : WR D a R
  re : ∃ n, Re A0 R0 a R n
  dat : DRow w (.agg #[.slice da D.length dc]) D
  row : PV w vr a.flat
  rows : QV w vR (R.map F.flat)
  map : KM D A0 R0 w MB
theorem WiIn.below {D : List Int} {A0 : List Pt} {R0 : List (List Pt)} {da : Option Addr} {dc MB : Nat} {a : F} {R : List F} {vr vR : Value} {w w' : World} (h : WiIn D A0 R0 da dc MB a R vr vR w) (hb : Below w.heap.size w w') : WiIn D A0 R0 da dc MB a R vr vR w' :=
  ⟨h.wr, h.re, h.dat.below hb, h.row.below hb, h.rows.below hb, h.map.keep (hb.block MB h.map.lt)⟩
theorem WiIn.oth {D : List Int} {A0 : List Pt} {R0 : List (List Pt)} {da : Option Addr} {dc MB : Nat} {a : F} {R : List F} {vr vR : Value} {w w' : World} (h : WiIn D A0 R0 da dc MB a R vr vR w) (ho : Oth MB w w') (hm : KM D A0 R0 w' MB) : WiIn D A0 R0 da dc MB a R vr vR w' :=
  ⟨h.wr, h.re, h.dat.oth ho h.map.noC, h.row.oth ho h.map.noC, h.rows.oth ho h.map.noC, hm⟩
end Go.Proofs.Ytfepljcblajfpab.W

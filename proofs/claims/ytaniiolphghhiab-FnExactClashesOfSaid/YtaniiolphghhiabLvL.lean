/-
  What is needed from each block on, in the program (liveIn): rounds till nothing changes. Conditions: a good flow.
-/
import Derived.Test.YtaniiolphghhiabLvB
namespace Go.Proofs.Ytaniiolphghhiab.W
open Go.ChangeShapes Go.WideShapes Go.ChangeAt Go.RowKit Go.Joins
set_option linter.unusedVariables false
set_option linter.unusedSimpArgs false
set_option maxRecDepth 20000

def lenC : Option Value → Nat
  | some (.slice _ m _) => m
  | _ => 0
/-- How many names the rows of a slice have. -/
def totV (v : Value) (w : World) : Nat :=
  match v with
  | .slice (some ⟨g, _, _⟩) n _ => ((List.range n).map fun i => lenC (w.cell? ⟨g, i, none⟩)).sum
  | _ => 0
theorem totV_eq {T : TypeId} {w : World} {S n c : Nat} {L : List (List Int)} (h : QST T w S L) (hn : n = L.length) : totV (.slice (some ⟨S, 0, none⟩) n c) w = tl L := by
  subst hn
  show ((List.range L.length).map fun i => lenC (w.cell? ⟨S, i, none⟩)).sum = (L.map List.length).sum
  congr 1
  refine List.ext_getElem (by simp) (fun i h1 h2 => ?_)
  have hi : i < L.length := by simpa using h1
  obtain ⟨x, hx, nv⟩ := h.at hi
  obtain ⟨a, c, rfl, -⟩ := nv.form
  simp only [List.getElem_map, List.getElem_range, hx, lenC]

set_option maxHeartbeats 8000000 in
theorem liveIn_any (v : Value) (D : List (List Int)) (n : Nat) (F : List (List Int)) (w : World) (h : FRow w v D n F) (hf : GF D F) :
    Calls Try.prog 21 #[v] w fun e w' => ∃ Z, e = .returned (.slice (some ⟨Z, 0, none⟩) D.length D.length) ∧ w.heap.size ≤ Z ∧ QSS w' Z (lvR D F) ∧ Below w.heap.size w w' := by
  have HA := hide (fun (L : List (List Int)) (S : Nat) (w' : World) (hb : Below w.heap.size w w') (hS : QSS w' S L) (hL : L.length = D.length) (k1 : ∀ k, R8 (row L k)) => needed_any v D n F L S D.length w' (h.below hb) hf hS hL k1)
  obtain ⟨ad, cg, bd, bc, rfl, hR, hq, hlc, hRF, hsm, hnb, hF⟩ := h
  have hnD : n = D.length := by have := hf.2.1; omega
  have hB0 : Below w.heap.size w (w.alloc (.cells #[.slice ad D.length cg, .slice bd n bc] 34)) := (Below.refl _ _).alloc (Nat.le_refl _) _
  have HX := hide (Bx.new w #[.slice ad D.length cg, .slice bd n bc] 34)
  have HG := hide hf
  have hd12 : D.length ≤ 12 := hf.1.2.1
  obtain ⟨nd, hnd⟩ : ∃ nd, nd = D.length := ⟨_, rfl⟩
  have HL0 := hide (LS.start D F)
  rw [← hnd] at HX hB0 hd12 HA hnD HL0 ⊢
  have HND := hide hnd
  subst hnD
  clear hR hRF hf hq hlc hnd hsm hnb hF
  go_enter Try.func21, Try.ntmps21
  go_upto_region 1 with fail
  obtain ⟨W1, hW1⟩ : ∃ W1, W1 = w.alloc (.cells #[.slice ad n cg, .slice bd n bc] 34) := ⟨_, rfl⟩
  obtain ⟨X, hX⟩ : ∃ X, X = w.heap.size := ⟨_, rfl⟩
  rw [← hW1] at HX hB0 ⊢
  rw [← hX] at HX ⊢
  have hXw : w.heap.size ≤ X := by omega
  clear hW1 hX
  have cX := HX.out.c
  have hmk := mk_SetS n (by omega)
  go_wp2_with fail
  clear hmk cX
  have HQ0 := hide (QST.new 51 W1 n)
  have HB2 := hide (hB0.alloc hB0.size (.cells (madeCells #[.slice none 0 0] n) 51))
  have HX2 := hide (HX.out.alloc (.cells (madeCells #[.slice none 0 0] n) 51))
  obtain ⟨W2, hW2⟩ : ∃ W2, W2 = W1.alloc (.cells (madeCells #[.slice none 0 0] n) 51) := ⟨_, rfl⟩
  obtain ⟨Z, hZ⟩ : ∃ Z, Z = W1.heap.size := ⟨_, rfl⟩
  rw [← hW2] at HX2 HQ0 HB2 ⊢
  rw [← hZ] at HQ0 ⊢
  have hZw : w.heap.size ≤ Z := by rw [hZ]; exact hB0.size
  clear hW2 hZ HX hB0
  go_loopw [3] (fun v w' => ∃ (S : Nat) (L : List (List Int)), v = .slice (some ⟨S, 0, none⟩) n n ∧ w.heap.size ≤ S ∧ QSS w' S L ∧ LS D F L ∧ Bx w' X #[.slice ad n cg, .slice bd n bc] 34 ∧ Below w.heap.size w w') (fun v w' => 96 - totV v w')
  case atStart => exact ⟨Z, _, rfl, hZw, HQ0.out, HL0.out, HX2.out, HB2.out⟩
  case round =>
    clear HQ0 HB2 HX2 HL0 hZw
    obtain ⟨S, L, rfl, hSw, hQ, hL, hx, hB⟩ := hrel
    have HQ := hide hQ
    have HL := hide hL
    have HX := hide hx
    have HB := hide hB
    clear hQ hL hx hB
    have cX := HX.out.c
    go_wp2_with fail
    refine Calls.mono (HA.out L S _ HB.out HQ.out (by rw [HL.out.len, ← HND.out]) HL.out.r8) ?_
    rintro e w1 ⟨Z1, rfl, hZ1, hQ1, hb1⟩
    have HQ1 := hide hQ1
    have HQb := hide (HQ.out.below hb1)
    have HB1 := hide (HB.out.trans (hb1.mono HB.out.size))
    have HX1 := hide (HX.out.below hb1 HX.out.lt)
    have hZw : w.heap.size ≤ Z1 := Nat.le_trans HB.out.size hZ1
    have HLA := hide (HL.out.all HG.out)
    clear cX hb1 hQ1 hZ1 HX
    go_wp2_with fail
    refine Calls.mono (areSame_any Z1 S n n n (nx D F L) L _ HQ1.out HQb.out (by rw [nx_len, ← HND.out]) (by rw [HL.out.len, ← HND.out]) (by omega) HLA.out.1.r8 HL.out.r8) ?_
    rintro e w2 ⟨rfl, hb2⟩
    have HB2 := hide (HB1.out.trans (hb2.mono HB1.out.size))
    have HX2 := hide (HX1.out.below hb2 HX1.out.lt)
    have HQ2 := hide (HQ1.out.below hb2)
    have HQc := hide (HQb.out.below hb2)
    clear hb2 HQ1 HQb HB1 HX1
    by_cases heq : nx D F L = L
    · have hE := HL.out.done HG.out (HL.out.fixed heq)
      have HE := hide hE
      have hd : decide (nx D F L = L) = true := decide_eq_true heq
      rw [hd]
      clear hd heq hE
      go_wp2_with fail
      go_ret
      exact ⟨S, rfl, hSw, by rw [← HE.out]; exact HQc.out, HB2.out⟩
    · have hd : decide (nx D F L = L) = false := decide_eq_false heq
      have hlt := HLA.out.2 heq
      have hmax := tl_max HLA.out.1.r8
      have hlen : (nx D F L).length = n := by rw [nx_len, ← HND.out]
      have hT1 : totV (.slice (some ⟨S, 0, none⟩) n n) wr = tl L := totV_eq HQ.out (by rw [HL.out.len, ← HND.out])
      have hT2 : totV (.slice (some ⟨Z1, 0, none⟩) n n) w2 = tl (nx D F L) := totV_eq HQ2.out hlen.symm
      have HM : Hid (96 - totV (.slice (some ⟨Z1, 0, none⟩) n n) w2 < 96 - totV (.slice (some ⟨S, 0, none⟩) n n) wr) := hide (by rw [hT1, hT2]; rw [hlen] at hmax; omega)
      rw [hd]
      clear hd heq hlt hmax hlen hT1 hT2
      go_wp2_with fail
      exact ⟨⟨Z1, _, rfl, hZw, HQ2.out, HLA.out.1, HX2.out, HB2.out⟩, HM.out⟩
end Go.Proofs.Ytaniiolphghhiab.W

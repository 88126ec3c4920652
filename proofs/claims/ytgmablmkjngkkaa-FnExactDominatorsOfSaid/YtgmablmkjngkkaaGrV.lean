/-
  l10Reach: what is reached, by the specification. Conditions: a good graph.
-/
import Derived.Test.YtgmablmkjngkkaaGrG
import Derived.Test.YtgmablmkjngkkaaGrU
namespace Go.Proofs.Ytgmablmkjngkkaa.W
open Go.ChangeShapes Go.WideShapes Go.ChangeAt Go.RowKit Go.Joins
set_option linter.unusedVariables false

def slLen : Value → Nat
  | .slice _ n _ => n
  | _ => 0
/-- A row of reached blocks, the first among them. -/
def RInv (L : List (List Int)) (no : Int) (o : List Int) : Prop := Ris o ∧ (∀ x ∈ o, ∃ k : Nat, x = (k : Int) ∧ Rc L no 0 k) ∧ (0 : Int) ∈ o
/-- Nothing is left out behind block k. -/
def ClAt (L : List (List Int)) (no : Int) (o : List Int) (k : Nat) : Prop := (k : Int) ∈ o → ∀ h : k < L.length, ∀ x ∈ L[k], x ≠ no → x ∈ o
theorem RInv.len {L : List (List Int)} {no : Int} {o : List Int} (hg : GG L) (h : RInv L no o) : o.length ≤ 12 := by
  have := rise_len o 0 12 h.1 (by omega) (fun x hx => by
    obtain ⟨k, rfl, hk⟩ := h.2.1 x hx
    have := hk.lt hg hg.1
    have := hg.2.1
    omega)
  omega
theorem RInv.put {L : List (List Int)} {no : Int} {o : List Int} (hg : GG L) (h : RInv L no o) {j : Nat} (hj : (j : Int) ∈ o) (hjl : j < L.length) {x : Int} (hx : x ∈ L[j]) (hn : x ≠ no) : RInv L no (putL o x) := by
  refine ⟨putL_ris x o h.1, fun y hy => ?_, (putL_mem x o 0).2 (.inr h.2.2)⟩
  rcases (putL_mem x o y).1 hy with rfl | hy
  · obtain ⟨k, e, hk⟩ := h.2.1 _ hj
    obtain rfl : j = k := by omega
    have h0 := (hg.2.2 j hjl).mem hx
    exact ⟨y.toNat, by omega, hk.step ⟨hjl, by rw [show (y.toNat : Int) = y by omega]; exact hx⟩ (by omega)⟩
  · exact h.2.1 y hy
theorem RInv.done {L : List (List Int)} {no : Int} {o : List Int} (hg : GG L) (h : RInv L no o) (hc : ∀ k, k < L.length → ClAt L no o k) : o = rl L no 0 :=
  rl_unique hg hg.1 h.1 h.2.1 (fun _ => h.2.2) (fun x y hx he hy => hc x he.1 hx he.1 _ he.2 hy)
theorem putL_grow {o : List Int} (x : Int) (h : Ris o) : o.length ≤ (putL o x).length ∧ ((putL o x).length = o.length → x ∈ o) := by
  rw [putL_len x o h]
  split
  · exact ⟨Nat.le_refl _, fun _ => by assumption⟩
  · exact ⟨by omega, fun h => by omega⟩
theorem rl_none (L : List (List Int)) : rl L 0 0 = [] := by
  refine List.eq_nil_iff_forall_not_mem.2 (fun x hx => ?_)
  obtain ⟨k, -, -, hk⟩ := lst_mem.1 hx
  exact (rc_iff.1 hk).first rfl

set_option maxHeartbeats 8000000 in
theorem l10Reach_any (v : Value) (L : List (List Int)) (no : Int) (w : World) (h : GRow w v L) (hg : GG L) :
    Calls Try.prog 51 #[v, .int .i64 no] w fun e w' => ∃ v', e = .returned v' ∧ NV w' v' (rl L no 0) ∧ Below w.heap.size w w' := by
  obtain ⟨ad, c, rfl, hR, hs, hlc⟩ := h
  have hBw : Below w.heap.size w (w.alloc (.cells #[.slice ad L.length c] 28)) := (Below.refl _ _).alloc (Nat.le_refl _) _
  have HX := hide (Bx.new w #[.slice ad L.length c] 28)
  have HR := hide (hR.below hBw)
  have HG := hide hg
  have hl12 := hg.2.1
  clear hR hs hlc hg
  by_cases hno : no = 0
  · subst hno
    clear HR HX
    go_enter Try.func51, Try.ntmps51
    go_wp2_with fail
    go_ret
    exact ⟨_, rfl, .inl ⟨rfl, rl_none L⟩, hBw⟩
  have hnb : (no == 0) = false := beq_eq_false_iff_ne.2 hno
  have Hno := hide hno
  clear hno
  go_enter Try.func51, Try.ntmps51
  go_wp2_with fail
  obtain ⟨W0, hW0⟩ : ∃ W0, W0 = w.alloc (.cells #[.slice ad L.length c] 28) := ⟨_, rfl⟩
  rw [← hW0] at HX HR hBw ⊢
  have hWS : Hid (W0.heap.size = w.heap.size + 1) := hide (by rw [hW0]; simp)
  clear hW0
  go_loopw [5] (fun v5 w' => ∃ o : List Int, NV w' v5 o ∧ RInv L no o ∧ Below W0.heap.size W0 w') (fun v5 _ => 12 - slLen v5)
  case atStart =>
    rw [← hWS.out]
    refine ⟨[0], .inr ⟨W0.heap.size, 0, 1, rfl, Nat.le_refl _, by simp, fun i hi => ?_⟩, ⟨by simp, fun x hx => ⟨0, by simpa using hx, .start (by have := Hno.out; intro e; exact this (by simpa using e.symm))⟩, by simp⟩, (Below.refl _ _).alloc (Nat.le_refl _) _⟩
    obtain rfl : i = 0 := by simpa using hi
    rw [(Bx.new W0 #[.int .i64 0] 3).c]
    rfl
  case round =>
    obtain ⟨o, hN, hI, hB⟩ := hrel
    obtain ⟨a5, c5, rfl, -⟩ := hN.form
    have ho12 := hI.len HG.out
    have HN := hide hN
    have HI := hide hI
    have HB := hide hB
    clear hN hI hB
    have X := HX.out.below HB.out HX.out.lt
    have cx := X.c
    have hbs : w.heap.size < wr.heap.size := X.lt
    go_wp2_with fail
    clear cx X
    obtain ⟨N0, hN0⟩ : ∃ N0, N0 = o.length := ⟨_, rfl⟩
    have HN0 := hide hN0
    rw [← hN0] at ho12 ⊢
    clear hN0
    go_loopw [5, 19] (fun v5 i w' => ∃ (j : Nat) (o' : List Int), j ≤ L.length ∧ i = .int .i64 j ∧ NV w' v5 o' ∧ RInv L no o' ∧ N0 ≤ o'.length ∧ (o'.length = N0 → ∀ k, k < j → ClAt L no o' k) ∧ Below W0.heap.size W0 w') (fun _ i _ => L.length - (intOf i).toNat)
    case atStart => exact ⟨0, o, by omega, rfl, by rw [HN0.out]; exact HN.out, HI.out, by rw [HN0.out]; omega, by intros; omega, HB.out⟩
    case round =>
      clear HN HI HB
      obtain ⟨j, o', hj, rfl, hN, hI, hle, hcl, hB⟩ := hrel
      obtain ⟨a6, c6, rfl, -⟩ := hN.form
      have ho2 := hI.len HG.out
      have HN := hide hN
      have HI := hide hI
      have HB := hide hB
      have HC := hide hcl
      have HLe := hide hle
      clear hN hI hB hcl hle
      by_cases hlt : j < L.length
      · have hlt' : (j : Int) < (L.length : Int) := by omega
        obtain ⟨b, oo, v, rfl, hb, p0, pv⟩ := QRow.at HR.out HB.out hlt
        obtain ⟨ad1, c1, rfl, pr, -⟩ := pv
        obtain ⟨l, hl1⟩ : ∃ l, l = L[j] := ⟨_, rfl⟩
        rw [← hl1] at p0 pr
        have HL := hide hl1
        have HP := hide pr
        have hll : l.length ≤ 12 := by
          have := (HG.out.2.2 j hlt).len
          rw [← hl1] at this
          omega
        clear hl1 pr
        go_wp2_with fail
        refine Calls.mono (l1Has_v _ o' j _ HN.out (by omega)) ?_
        rintro e w1 ⟨rfl, hw⟩
        obtain rfl := hw.symm
        by_cases hm : (j : Int) ∈ o'
        · rw [decide_eq_true hm]
          have HM := hide hm
          clear hm p0
          go_wp2_with fail
          obtain ⟨WS, hWS⟩ : ∃ WS, WS = wr := ⟨_, rfl⟩
          rw [← hWS] at HP
          have HBS : Hid (Below W0.heap.size W0 WS) := hide (by rw [hWS]; exact HB.out)
          have HBR : Hid (Below WS.heap.size WS wr) := hide (by rw [hWS]; exact Below.refl _ _)
          clear hWS
          go_loopw [5, 30] (fun v5 i w' => ∃ (m : Nat) (o2 : List Int), m ≤ l.length ∧ i = .int .i64 m ∧ NV w' v5 o2 ∧ RInv L no o2 ∧ N0 ≤ o2.length ∧ (j : Int) ∈ o2 ∧ (o2.length = N0 → (∀ k, k < j → ClAt L no o2 k) ∧ ∀ q (hq : q < l.length), q < m → l[q] ≠ no → l[q] ∈ o2) ∧ Below WS.heap.size WS w') (fun _ i _ => l.length - (intOf i).toNat)
          case atStart => exact ⟨0, o', by omega, rfl, HN.out, HI.out, HLe.out, HM.out, fun h => ⟨HC.out h, by intros; omega⟩, HBR.out⟩
          case round =>
            clear HN HI HB HC HLe HM HBR ho2
            obtain ⟨m, o2, hm, rfl, hN, hI, hle, hmem, hcl, hB⟩ := hrel
            obtain ⟨a7, c7, rfl, -⟩ := hN.form
            have ho2 := hI.len HG.out
            have HN := hide hN
            have HI := hide hI
            have HB := hide hB
            have HC := hide hcl
            have HM := hide hmem
            have HLe := hide hle
            clear hN hI hB hcl hmem hle
            by_cases hlm : m < l.length
            · have hlm' : (m : Int) < (l.length : Int) := by omega
              obtain ⟨b1, o1, rfl, hb1, p0⟩ := IRow.iat HP.out HB.out hlm
              obtain ⟨x, hx⟩ : ∃ x, x = l[m] := ⟨_, rfl⟩
              rw [← hx] at p0
              have HXx := hide hx
              have HXm : Hid (x ∈ L[j]) := hide (by rw [hx, ← HL.out]; exact List.getElem_mem hlm)
              clear hx
              by_cases hxn : x = no
              · subst hxn
                have HC2 : Hid (o2.length = N0 → (∀ k, k < j → ClAt L x o2 k) ∧ ∀ q (hq : q < l.length), q < m + 1 → l[q] ≠ x → l[q] ∈ o2) := hide (fun h => ⟨(HC.out h).1, fun q hq hqm hne => by
                  by_cases e : q = m
                  · subst e; exact absurd HXx.out.symm hne
                  · exact (HC.out h).2 q hq (by omega) hne⟩)
                go_wp2_with fail
                exact ⟨⟨m + 1, o2, by omega, by go_num, HN.out, HI.out, HLe.out, HM.out, HC2.out, HB.out⟩, by simp [intOf]; omega⟩
              · have hxb : (x == no) = false := beq_eq_false_iff_ne.2 hxn
                have HI2 := hide (HI.out.put HG.out HM.out hlt HXm.out hxn)
                have hgr := putL_grow x HI.out.1
                have HM2 := hide ((putL_mem x o2 j).2 (.inr HM.out))
                have HC2 : Hid ((putL o2 x).length = N0 → (∀ k, k < j → ClAt L no (putL o2 x) k) ∧ ∀ q (hq : q < l.length), q < m + 1 → l[q] ≠ no → l[q] ∈ putL o2 x) := hide (fun h => by
                  have hle := HLe.out
                  have hin := hgr.2 (by omega)
                  rw [putL_old x o2 HI.out.1 hin] at h ⊢
                  refine ⟨(HC.out h).1, fun q hq hqm hne => ?_⟩
                  by_cases e : q = m
                  · subst e; rw [← HXx.out]; exact hin
                  · exact (HC.out h).2 q hq (by omega) hne)
                have HLe2 : Hid (N0 ≤ (putL o2 x).length) := hide (Nat.le_trans HLe.out hgr.1)
                clear hgr hxn
                go_wp2_with fail
                refine Calls.mono (l1Put_any _ o2 x _ HN.out (by omega)) ?_
                rintro e w1 ⟨v1, rfl, hN1, hb1⟩
                have HN1 := hide hN1
                have HB1 := hide (HB.out.trans (hb1.mono HB.out.size))
                clear hN1 hb1 p0
                go_wp2_with fail
                exact ⟨⟨m + 1, _, by omega, by go_num, HN1.out, HI2.out, HLe2.out, HM2.out, HC2.out, HB1.out⟩, by simp [intOf]; omega⟩
            · have HB2 := hide (HBS.out.trans (HB.out.mono HBS.out.size))
              have HC2 : Hid (o2.length = N0 → ∀ k, k < j + 1 → ClAt L no o2 k) := hide (fun h k hk => by
                by_cases e : k = j
                · subst e
                  intro _ hkl y hy hn
                  rw [← HL.out] at hy
                  obtain ⟨q, hq, rfl⟩ := List.getElem_of_mem hy
                  exact (HC.out h).2 q hq (by omega) hn
                · exact (HC.out h).1 k (by omega))
              go_wp2_with fail
              exact ⟨⟨j + 1, o2, by omega, by go_num, HN.out, HI.out, HLe.out, HC2.out, HB2.out⟩, by simp [intOf]; omega⟩
        · rw [decide_eq_false hm]
          have HC2 : Hid (o'.length = N0 → ∀ k, k < j + 1 → ClAt L no o' k) := hide (fun h k hk => by
            by_cases e : k = j
            · subst e; intro hc; exact absurd hc hm
            · exact HC.out h k (by omega))
          clear hm p0
          go_wp2_with fail
          exact ⟨⟨j + 1, o', by omega, by go_num, HN.out, HI.out, HLe.out, HC2.out, HB.out⟩, by simp [intOf]; omega⟩
      · have hle := HLe.out
        by_cases he : o'.length = N0
        · have HF := hide (HI.out.done HG.out (fun k hk => HC.out he k (by omega)))
          have he2 : ((o'.length : Int) == (N0 : Int)) = true := by rw [beq_iff_eq]; omega
          have HB2 := hide (hBw.trans (HB.out.mono hBw.size))
          clear he hle
          go_wp2_with fail
          go_ret
          exact ⟨_, rfl, by rw [← HF.out]; exact HN.out, HB2.out⟩
        · have he2 : ((o'.length : Int) == (N0 : Int)) = false := beq_eq_false_iff_ne.2 (by omega)
          have hgt : N0 < o'.length := by omega
          have HGt := hide hgt
          have HH := hide ho2
          clear he hle hgt
          go_wp2_with fail
          refine ⟨⟨o', HN.out, HI.out, HB.out⟩, ?_⟩
          have := HGt.out
          have := HH.out
          have := HN0.out
          simp [slLen]
          omega
end Go.Proofs.Ytgmablmkjngkkaa.W

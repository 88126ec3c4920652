/-
  What rules miss, by the program: MissedBy. Conditions: at most 1048576 elements a row. Written by wip/build/mk_msq.py.
-/
import Derived.Test.YtfepljcblajfpabMsP
namespace Go.Proofs.Ytfepljcblajfpab.W
open Go.ChangeShapes Go.WideShapes Go.ChangeAt Go.RowKit
open Go.Maps
set_option linter.unusedVariables false
set_option linter.unusedSimpArgs false

theorem anys1_ok (D : List Int) : (anys 1).ok D := by
  refine ⟨?_, ?_, trivial, trivial⟩
  · simp [goodC]
  · simp [ar, F.len]
theorem missO_no {D : List Int} {L : List (List Pt)} (h : goodR D L = false) : missO D L = none := by unfold missO; rw [if_neg (by rw [h]; simp)]
theorem missO_yes {D : List Int} {L : List (List Pt)} (h : goodR D L = true) : missO D L = wn D (anys 1) (trees D L) := by unfold missO; rw [if_pos h]

set_option maxRecDepth 20000 in
set_option maxHeartbeats 4000000 in
theorem implMissed_any (vd : Value) (D : List Int) (x0 : Value) (L : List (List Pt)) (w : World) (hD : DRow w vd D) (hq : QV w x0 L) :
    Calls Try.prog 10 #[vd, x0] w fun e w' => ∃ v', e = .returned (.tuple #[v', .bool (missO D L).isSome, .bool (goodR D L)]) ∧ w'.ownsRow w.heap.size 67 2 v' (missL D L).length (rcells 2 Pt.c (missL D L)) ∧ Below w.heap.size w w' := by
  have HG := hide (fun (w' : World) (hb : Below w.heap.size w w') => implGoodR_any vd D x0 L w' (hD.below hb) (hq.below hb))
  have HD := hide hD
  have HQ := hide hq
  obtain ⟨da, dc, rfl, -, -⟩ := hD
  obtain ⟨qa, qc, rfl, -, -, -⟩ := hq
  have HB0 := hide (show Below w.heap.size w (w.alloc (.cells #[.slice da D.length dc] 31)) from (Below.refl _ _).alloc (Nat.le_refl _) _)
  have HX0 := hide (Bx.new w #[.slice da D.length dc] 31)
  have HMno := hide (fun h => missO_no (D := D) (L := L) h)
  have HMy := hide (fun h => missO_yes (D := D) (L := L) h)
  have HFa := hide (fun h => goodR_facts (D := D) (L := L) h)
  obtain ⟨G, hG⟩ : ∃ G, G = goodR D L := ⟨_, rfl⟩
  rw [← hG] at HG HMno HMy HFa ⊢
  clear hG
  unfold missL
  obtain ⟨M, hM⟩ : ∃ M, M = missO D L := ⟨_, rfl⟩
  rw [← hM] at HMno HMy ⊢
  clear hM
  go_enter Try.func10, Try.ntmps10
  go_wp2_with fail
  refine Calls.mono (HG.out _ HB0.out) ?_
  rintro e w1 ⟨rfl, hb1⟩
  have hB1 : Below w.heap.size w w1 := HB0.out.trans (hb1.mono HB0.out.size)
  have HX1 := hide (HX0.out.below hb1 HX0.out.lt)
  clear hb1 HB0 HX0 HG
  cases G with
  | false =>
    obtain rfl := HMno.out rfl
    have HE := hide (World.ownsRow_nil w1 w.heap.size 67 2)
    clear HMno HMy HFa
    go_wp2_with fail
    exact bodyPost_ret (v := .tuple #[.slice none 0 0, .bool false, .bool false]) (by simp [results, Try.results10, go_sem]) rfl ⟨_, rfl, HE.out, hB1⟩
  | true =>
    obtain ⟨hd, h8, htr⟩ := HFa.out rfl
    have hMe := HMy.out rfl
    have hWR := trees_wr htr h8 (anys1_ok D) rfl (by simp [anys, F.flat])
    have htf := trees_flat htr
    have h40 : ∀ b ∈ L, b.length ≤ 40 := fun l hl => by obtain ⟨a, ha⟩ := htr l hl; exact (treeT_flat ha).2.2.2.1
    have hRe : ∃ n, Re [⟨1, 0⟩] L (anys 1) (trees D L) n := by have := Re.start (anys 1) (trees D L); rw [htf] at this; exact this
    have HNm := hide (fun (w' : World) => newMissing_any D da dc w')
    have HWi : Hid (∀ (w' : World) (MB : Nat) (ra : Nat), Below w.heap.size w w' → KM D [⟨1, 0⟩] L w' MB → PV w' (.slice (some ⟨ra, 0, none⟩) 1 1) [⟨1, 0⟩] → Calls Try.prog 33 #[.agg #[.slice da D.length dc, .map (some MB)], .slice (some ⟨ra, 0, none⟩) 1 1, .slice qa L.length qc] w' fun e w'' => WiOut D (anys 1) (trees D L) w'.heap.size w'' e ∧ KM D [⟨1, 0⟩] L w'' MB ∧ Oth MB w' w'') := hide (fun w' MB ra hb hk hp => within_all D hd [⟨1, 0⟩] L da dc MB (by simp) h40 h8 _ _ _ _ _ w' (Nat.lt_succ_self _) ⟨hWR, hRe, HD.out.below hb, hp, by rw [htf]; exact HQ.out.below hb, hk⟩)
    unfold WiOut at HWi
    rw [← hMe] at HWi
    have cx := HX1.out.c
    have xl := HX1.out.lt
    clear HFa HMno HMy hMe hWR htf h40 hRe htr hd h8
    go_wp2_with fail
    refine Calls.mono (HNm.out _) ?_
    rintro e w2 ⟨MB, rfl, hkm, hMB, hb2⟩
    have hs1 := hB1.size
    have hs2 := hb2.size
    have hB2 : Below w.heap.size w w2 := hB1.trans (hb2.mono hB1.size)
    have HKm := hide (hkm [⟨1, 0⟩] L)
    obtain ⟨w3, hw3⟩ : ∃ w3, w3 = w2.alloc (.cells #[.int .i64 1, .int .i64 0] 67) := ⟨_, rfl⟩
    have hb3 : Below w2.heap.size w2 w3 := by rw [hw3]; exact (Below.refl _ _).alloc (Nat.le_refl _) _
    have hB3 : Below w.heap.size w w3 := hB2.trans (hb3.mono hB2.size)
    have hp3 : PV w3 (.slice (some ⟨w2.heap.size, 0, none⟩) 1 1) [⟨1, 0⟩] := by
      have : PtBlk w3 w2.heap.size [⟨1, 0⟩] := PtBlk.ofArr (by rw [hw3]; exact heap_alloc_new _ _)
      exact this.pv
    have HC := hide (HWi.out w3 MB w2.heap.size hB3 (HKm.out.keep (hb3.block MB HKm.out.lt)) hp3)
    have HB3 := hide hB3
    clear HX1 cx xl hb2 hkm HNm HWi hp3 hB3 hB2 hb3 HKm
    go_wp2_with fail
    rw [← hw3]
    clear hw3
    refine Calls.mono HC.out ?_
    rintro e w4 ⟨⟨ad, n, cc, rfl, hown, hnone⟩, -, hoth⟩
    have hs3 := HB3.out.size
    have hB4 : Below w.heap.size w w4 := HB3.out.trans (hoth.below hs3 (by omega))
    clear HC hoth
    cases M with
    | none =>
      obtain ⟨rfl, rfl, rfl⟩ := hnone rfl
      have HE := hide (World.ownsRow_nil w4 w.heap.size 67 2)
      clear hown hnone
      simp only [Option.isSome_none]
      go_wp2_with fail
      exact bodyPost_ret (v := .tuple #[.slice none 0 0, .bool false, .bool true]) (by simp [results, Try.results10, go_sem]) rfl ⟨_, rfl, HE.out, hB4⟩
    | some l =>
      have HO := hide (own_lower (hown l rfl) hs3)
      clear hown hnone
      simp only [Option.isSome_some, Option.getD_some]
      go_wp2_with fail
      exact bodyPost_ret (v := .tuple #[.slice ad n cc, .bool true, .bool true]) (by simp [results, Try.results10, go_sem]) rfl ⟨_, rfl, HO.out, hB4⟩
end Go.Proofs.Ytfepljcblajfpab.W

/-
  Contracts of the program's ThenComp. Conditions: at most 1048576 cells and rows.
-/
import Derived.Test.YtlicfmjkoopmnaaCoH
import Derived.Test.YtlicfmjkoopmnaaCoQ
import Derived.Test.YtlicfmjkoopmnaaRwG
import Derived.Test.YtlicfmjkoopmnaaCoG
import Derived.Deep.CutRange
namespace Go.Proofs.Ytlicfmjkoopmnaa.C
open Go.Proofs.Ytlicfmjkoopmnaa.W
open Go.ChangeShapes Go.WideShapes Go.ChangeAt Go.RowKit Go.Joins
set_option linter.unusedVariables false

/-- The computation with a number. -/
def nxL (L : List (List Cc)) (n : Int) : List Cc := (L[n.toNat]?).getD []
/-- Whether there are 100 good ones behind a good one. -/
def thG (l : List Cc) (L : List (List Cc)) : Bool := goodT l && decide (L.length = 100) && L.all goodT
/-- What ThenComp tells. -/
def thL (l : List Cc) (L : List (List Cc)) : List Cc := if thG l L = true then folL (nxL L) l else []
def thB (l : List Cc) (L : List (List Cc)) : Bool := thG l L && decide ((fol (nxL L) l).length ≤ 60)
theorem thL_len (l : List Cc) (L : List (List Cc)) : (thL l L).length ≤ 1048576 := by
  unfold thL folL
  split
  · split
    · omega
    · simp
  · simp
theorem good_pos {l : List Cc} (h : goodT l = true) : 0 < l.length ∧ l.length ≤ 60 := by
  obtain ⟨t, ht, hlt, h6, -⟩ := good_tr h
  exact ⟨by rw [hlt]; exact t.flat_pos, h6⟩
theorem all_dropC {l : List (List Cc)} {j : Nat} (h : j < l.length) : (l.drop j).all goodT = (goodT l[j] && (l.drop (j + 1)).all goodT) := by
  rw [List.drop_eq_getElem_cons h, List.all_cons]

set_option maxRecDepth 20000 in
set_option maxHeartbeats 1000000 in
theorem then1_any (XB : Nat) (qa : Option Addr) (qc : Nat) (L : List (List Cc)) (w : World) (hX : Bx w XB #[.slice qa L.length qc] 48) (hQ : QRow w qa L) (hL : L.length = 100) : Nx_then (.pointer (some ⟨XB, 0, none⟩)) (nxL L) w := by
  intro n w1 h0 h1 hb
  have hlt : n.toNat < L.length := by omega
  obtain ⟨b, o, v, rfl, hbl, p0, pv⟩ := QRow.at hQ hb hlt
  obtain ⟨a1, c1, rfl, pr, -⟩ := pv
  have cx : w1.cell? ⟨XB, 0, none⟩ = some (.slice (some ⟨b, o, none⟩) L.length qc) := (hb.cell (p := ⟨XB, 0, none⟩) hX.lt).trans (hX.c 0)
  have HE : Hid (nxL L n = L[n.toNat]) := hide (by unfold nxL; rw [List.getElem?_eq_getElem hlt]; rfl)
  rw [HE.out]
  have HP := hide pr
  obtain ⟨N, hN⟩ : ∃ N, N = L[n.toNat].length := ⟨_, rfl⟩
  rw [← hN] at p0 ⊢
  obtain ⟨m, rfl⟩ : ∃ m : Nat, n = (m : Int) := ⟨n.toNat, by omega⟩
  rw [Int.toNat_natCast] at p0
  have hm : (m : Int) < (L.length : Int) := by omega
  clear hX hQ hN pr HE
  go_enter Try.func54, Try.ntmps54
  go_wp2_with fail
  go_ret
  exact ⟨_, _, rfl, HP.out, Below.refl _ _⟩

set_option maxRecDepth 20000 in
set_option maxHeartbeats 4000000 in
theorem implThen_any (ad : Option Addr) (c : Nat) (l : List Cc) (qa : Option Addr) (qc : Nat) (L : List (List Cc)) (w : World) (hl : l.length ≤ 1048576) (h : CRow w ad l) (hs : QSm L) (hq : QRow w qa L) :
    Calls Try.prog 27 #[.slice ad l.length c, .slice qa L.length qc] w (RU2 w (thL l L) (thB l L)) := by
  unfold RU2
  have hB0 : Below w.heap.size w (w.alloc (.cells #[.slice qa L.length qc] 48)) := (Below.refl _ _).alloc (Nat.le_refl _) _
  have hX0 := Bx.new w #[.slice qa L.length qc] 48
  have HC := hide (fun w' hb => implGoodT_any ad c l w' hl (CRow.below (w' := w') h hb))
  have hLl := hs.1
  have HS := hide hs.2
  have HQ := hide hq
  have HR := hide h
  have HB0 := hide hB0
  have HX0 := hide hX0
  clear hs hq hB0 hX0 h
  by_cases hg : goodT l = true
  · rw [hg] at HC
    obtain ⟨g0, g60⟩ := good_pos hg
    obtain ⟨t, ht, hlt, -, -⟩ := good_tr hg
    have HTk : Hid (tellOk l) := hide (by rw [hlt]; exact t.tellOk ht)
    clear ht hlt
    by_cases h100 : L.length = 100
    · have HG : Hid (thG l L = L.all goodT) := hide (by unfold thG; rw [hg, h100]; rfl)
      have HX1 := hide (fun (w1 : World) (hX : Bx w1 w.heap.size #[.slice qa L.length qc] 48) (hQ : QRow w1 qa L) => then1_any w.heap.size qa qc L w1 hX hQ h100)
      have H1 := hide h100
      have h100' : (L.length : Int) = 100 := by omega
      have hNL : ∀ n : Int, 0 ≤ n → n ≤ 99 → ∃ hh : n.toNat < L.length, nxL L n = L[n.toNat] := fun n a b => ⟨by omega, by unfold nxL; rw [List.getElem?_eq_getElem (by omega)]; rfl⟩
      have HNL := hide hNL
      clear hg hNL h100
      go_enter Try.func27, Try.ntmps27
      go_upto_region 1 with fail
      obtain ⟨w0, hw0⟩ : ∃ w0, w0 = w.alloc (.cells #[.slice qa L.length qc] 48) := ⟨_, rfl⟩
      obtain ⟨XB, hXB⟩ : ∃ XB, XB = w.heap.size := ⟨_, rfl⟩
      rw [← hw0] at HB0 HX0 ⊢
      rw [← hXB] at HX0 HX1 ⊢
      clear hw0 hXB
      have cX := HX0.out.c
      have xl := HX0.out.lt
      go_wp2_with fail
      refine Calls.mono (HC.out _ HB0.out) ?_
      rintro e w1 ⟨rfl, hb1⟩
      have HB1 := hide (HB0.out.trans (hb1.mono HB0.out.size))
      have HX2 := hide (HX0.out.below hb1 xl)
      clear hb1 HC HB0 HX0 cX xl
      have cX := HX2.out.c
      have xl := HX2.out.lt
      go_wp2_with fail
      clear cX
      go_loopw [18] (fun i w' => ∃ j : Nat, j ≤ L.length ∧ i = .int .i64 j ∧ Below w1.heap.size w1 w' ∧ L.all goodT = (L.drop j).all goodT) (fun i _ => L.length - (intOf i).toNat)
      case atStart => exact ⟨0, by omega, rfl, Below.refl _ _, by rw [List.drop_zero]⟩
      case round =>
        obtain ⟨j, hj, rfl, hB, hall⟩ := hrel
        have HA := hide hall
        clear hall
        have hBB : Below w.heap.size w wr := HB1.out.trans (hB.mono HB1.out.size)
        by_cases hlt : j < L.length
        · have hlt' : (j : Int) < (L.length : Int) := by omega
          obtain ⟨b, o, v, rfl, hb, p0, pv⟩ := QRow.at HQ.out hBB hlt
          obtain ⟨a1, c1, rfl, pr, -⟩ := pv
          have HGc := hide (implGoodT_any a1 c1 L[j] wr (HS.out _ (List.getElem_mem hlt)) pr)
          have HD : Hid ((L.drop j).all goodT = (goodT L[j] && (L.drop (j + 1)).all goodT)) := hide (all_dropC hlt)
          obtain ⟨N, hN⟩ : ∃ N, N = L[j].length := ⟨_, rfl⟩
          rw [← hN] at p0 HGc
          clear hN pr
          by_cases hgj : goodT L[j] = true
          · rw [hgj] at HGc HD
            clear hgj
            go_wp2_with fail
            refine Calls.mono HGc.out ?_
            rintro e w2 ⟨rfl, hb2⟩
            have hB2 : Below w1.heap.size w1 w2 := hB.trans (hb2.mono hB.size)
            clear HGc hb2 p0
            go_wp2_with fail
            exact ⟨⟨j + 1, by omega, by go_num, hB2, by rw [HA.out, HD.out, Bool.true_and]⟩, by simp [intOf]; omega⟩
          · rw [Bool.not_eq_true] at hgj
            rw [hgj] at HGc HD
            have HNo : Hid (thG l L = false) := hide (by rw [HG.out, HA.out, HD.out]; rfl)
            clear hgj
            go_wp2_with fail
            refine Calls.mono HGc.out ?_
            rintro e w2 ⟨rfl, hb2⟩
            have hB2 : Below w.heap.size w w2 := hBB.trans (hb2.mono hBB.size)
            clear HGc hb2 p0
            go_wp2_with fail
            exact bodyPost_ret (v := .tuple #[.slice none 0 0, .bool false]) (by simp [results, Try.results27, go_sem]) rfl ⟨.slice none 0 0, by unfold thB; rw [HNo.out]; rfl, by unfold thL; rw [HNo.out, if_neg (by simp)]; exact World.ownsRow_nil _ _ _ _, hB2⟩
        · obtain rfl : j = L.length := by omega
          have HYes : Hid (L.all goodT = true) := hide (by rw [HA.out, List.drop_length]; rfl)
          have HF := hide (followed_then ad c l (.pointer (some ⟨XB, 0, none⟩)) (nxL L) wr g60 (HR.out.below hBB) HTk.out (fun n a b => by
            obtain ⟨hh, e⟩ := HNL.out n a b
            have hy := good_pos (List.all_eq_true.1 HYes.out _ (List.getElem_mem hh))
            rw [e]
            omega) (HX1.out wr (HX2.out.below hB xl) (HQ.out.below hBB)))
          unfold RU2 at HF
          obtain ⟨FL, hFL⟩ : ∃ FL, FL = folL (nxL L) l := ⟨_, rfl⟩
          obtain ⟨FB, hFB⟩ : ∃ FB, FB = decide ((fol (nxL L) l).length ≤ 60) := ⟨_, rfl⟩
          rw [← hFL, ← hFB] at HF
          have HFL := hide hFL
          have HFB := hide hFB
          clear hFL hFB
          go_wp2_with fail
          refine Calls.mono HF.out ?_
          rintro e w2 ⟨v, rfl, ho, hb2⟩
          obtain ⟨va, vc, rfl⟩ := iOwn_form ho
          have HO := hide (iOwn_lower ho hBB.size)
          have hB2 : Below w.heap.size w w2 := hBB.trans (hb2.mono hBB.size)
          clear ho hb2 HF
          go_wp2_with fail
          exact bodyPost_ret (v := .tuple #[.slice va FL.length vc, .bool FB]) (by simp [results, Try.results27, go_sem]) rfl ⟨.slice va FL.length vc, by unfold thB; rw [HG.out, HYes.out, HFB.out, Bool.true_and], by unfold thL; rw [HG.out, HYes.out, if_pos rfl, ← HFL.out]; exact HO.out, hB2⟩
    · have HNo : Hid (thG l L = false) := hide (by unfold thG; rw [decide_eq_false h100]; simp)
      have h100' : ¬ (L.length : Int) = 100 := by omega
      clear hg h100
      go_enter Try.func27, Try.ntmps27
      go_upto_region 1 with fail
      obtain ⟨w0, hw0⟩ : ∃ w0, w0 = w.alloc (.cells #[.slice qa L.length qc] 48) := ⟨_, rfl⟩
      obtain ⟨XB, hXB⟩ : ∃ XB, XB = w.heap.size := ⟨_, rfl⟩
      rw [← hw0] at HB0 HX0 ⊢
      rw [← hXB] at HX0 ⊢
      clear hw0 hXB
      have cX := HX0.out.c
      have xl := HX0.out.lt
      go_wp2_with fail
      refine Calls.mono (HC.out _ HB0.out) ?_
      rintro e w1 ⟨rfl, hb1⟩
      have HB1 := hide (HB0.out.trans (hb1.mono HB0.out.size))
      have HX2 := hide (HX0.out.below hb1 xl)
      clear hb1 HC HB0 HX0 cX xl
      have cX := HX2.out.c
      go_wp2_with fail
      exact bodyPost_ret (v := .tuple #[.slice none 0 0, .bool false]) (by simp [results, Try.results27, go_sem]) rfl ⟨.slice none 0 0, by unfold thB; rw [HNo.out]; rfl, by unfold thL; rw [HNo.out, if_neg (by simp)]; exact World.ownsRow_nil _ _ _ _, HB1.out⟩
  · rw [Bool.not_eq_true] at hg
    rw [hg] at HC
    have HNo : Hid (thG l L = false) := hide (by unfold thG; rw [hg]; rfl)
    clear hg
    go_enter Try.func27, Try.ntmps27
    go_upto_region 1 with fail
    obtain ⟨w0, hw0⟩ : ∃ w0, w0 = w.alloc (.cells #[.slice qa L.length qc] 48) := ⟨_, rfl⟩
    obtain ⟨XB, hXB⟩ : ∃ XB, XB = w.heap.size := ⟨_, rfl⟩
    rw [← hw0] at HB0 HX0 ⊢
    rw [← hXB] at HX0 ⊢
    clear hw0 hXB
    go_wp2_with fail
    refine Calls.mono (HC.out _ HB0.out) ?_
    rintro e w1 ⟨rfl, hb1⟩
    have HB1 := hide (HB0.out.trans (hb1.mono HB0.out.size))
    clear hb1 HC HB0 HX0
    go_wp2_with fail
    exact bodyPost_ret (v := .tuple #[.slice none 0 0, .bool false]) (by simp [results, Try.results27, go_sem]) rfl ⟨.slice none 0 0, by unfold thB; rw [HNo.out]; rfl, by unfold thL; rw [HNo.out, if_neg (by simp)]; exact World.ownsRow_nil _ _ _ _, HB1.out⟩
end Go.Proofs.Ytlicfmjkoopmnaa.C

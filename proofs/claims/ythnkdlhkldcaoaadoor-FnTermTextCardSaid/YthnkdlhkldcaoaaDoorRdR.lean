/-
  A term read by the program: the contract of ReadTerm. Conditions: the library's variables hold a number, two errors, and the table of powers of ten.
-/
import Derived.Test.YthnkdlhkldcaoaaDoorRdC
namespace Go.Proofs.YthnkdlhkldcaoaaDoor.W
open Go.ChangeShapes Go.WideShapes Go.ChangeAt Go.RowKit
set_option linter.unusedVariables false

set_option maxRecDepth 20000 in
set_option maxHeartbeats 8000000 in
theorem implRead_any (s : ByteArray) (w : World) (hv : VR w) : Calls Tryd.prog 6 #[.string s] w (RT w (rdT s)) := by
  obtain ⟨R, hR⟩ : ∃ R, R = rdT s := ⟨_, rfl⟩
  rw [← hR]
  have HR := hide hR
  clear hR
  by_cases hs : s.size ≤ 2000
  · have hs' : ¬ (2000 : Int) < (s.size : Int) := by omega
    obtain ⟨i0, hi0, hz0, hz1, hz2⟩ := infoPartsT infoCell
    have Hi := hide hi0
    have HC := hide (Split_any s w hs hv.len)
    have HE := hide (fun (l : List Cc) h => rdT_end (s := s) (l := l) hs h)
    have HB := hide (fun (x : List UInt8) hw h => rdT_bad (s := s) (w := x) hw h)
    rw [← HR.out] at HE HB
    have hcl := cutL_len s.data.toList
    obtain ⟨WS, hWS⟩ : ∃ WS, WS = cutL s.data.toList := ⟨_, rfl⟩
    rw [← hWS] at HC HE HB hcl
    have hwl : WS.length ≤ 2001 := by simp at hcl; omega
    have HSz : Hid (s.data.toList.length ≤ 2000) := hide (by simpa using hs)
    have word_le : ∀ {u : List UInt8}, u ∈ WS → u.length ≤ s.data.toList.length := fun h => cutL_word (hWS ▸ h)
    have HV := hide hv
    clear hWS hcl hi0 hv
    go_enter Tryd.func6, Tryd.ntmps6
    go_wp2_with fail
    refine Calls.mono HC.out ?_
    rintro e w1 ⟨v, rfl, hS, hb1⟩
    have HS := hide hS
    have HB1 := hide hb1
    obtain ⟨sb, so, sc, rfl, hsb, -⟩ := hS
    have HV1 := hide (HV.out.below hb1)
    clear hb1 HC HV
    go_wp2_with fail
    go_loopw [4, 15] (fun v4 v16 w' => ∃ (i : Nat) (l : List Cc), i ≤ WS.length ∧ v16 = .int .i64 (i : Int) ∧ l.length = i ∧ (WS.take i).map dcell = l.map some ∧ w'.ownsRow w1.heap.size 37 2 v4 l.length (cv l) ∧ Below w1.heap.size w1 w') (fun _ i _ => WS.length - (intOf i).toNat)
    case atStart => exact ⟨0, [], by omega, rfl, rfl, rfl, World.ownsRow_nil _ _ _ _, Below.refl _ _⟩
    case round =>
      obtain ⟨i, l, hi, rfl, hl, hmap, ho, hB⟩ := hrel
      obtain ⟨oa, oc, rfl⟩ := iOwn_form ho
      have HM := hide hmap
      have HO := hide ho
      have hol := hide ho.lt
      have HL := hide hl
      clear hmap ho hl
      by_cases hlt : i < WS.length
      · have hlt' : (i : Int) < (WS.length : Int) := by omega
        obtain ⟨b2, o2, c2, e2, hsb2, hc2⟩ := HS.out.at hB
        simp only [Value.slice.injEq, Option.some.injEq, Addr.mk.injEq] at e2
        obtain ⟨⟨rfl, rfl, -⟩, -, rfl⟩ := e2
        have p0 := hc2 i hlt
        clear hc2
        obtain ⟨x, hx⟩ : ∃ x : ByteArray, x = ⟨WS[i].toArray⟩ := ⟨_, rfl⟩
        have HX := hide (show WS[i] = x.data.toList by rw [hx])
        have p1 : wr.cell? ⟨sb, so + i, none⟩ = some (.string x) := by rw [hx]; exact p0
        have hm1 : l.length + 1 ≤ maxLen := by have := HL.out; unfold maxLen; omega
        have hxl : x.size ≤ 2000 := by
          have h1 := HX.out
          have h2 := word_le (List.getElem_mem hlt)
          rw [h1] at h2
          simpa using Nat.le_trans h2 HSz.out
        have HCo := hide (cellOf_any x wr hxl (HV1.out.below hB))
        clear p0 hx
        cases hb : prB x.data.toList with
        | true =>
          rw [hb] at HCo
          have HD := hide (prB_yes hb).1
          obtain ⟨⟨k, n⟩, hc⟩ : ∃ c, c = prg x.data.toList := ⟨_, rfl⟩
          rw [← hc] at HCo HD
          clear hc hb HE HB
          go_wp2_with fail
          refine Calls.mono HCo.out ?_
          rintro e w3 ⟨rfl, hb3⟩
          have HO3 := hide (tOwn_keep HO.out (fun k _ hk => hb3.block k hk))
          have hB3 : Below w1.heap.size w1 w3 := hB.trans (hb3.mono hB.size)
          clear hb3 HCo p1 HO
          go_wp2_with (at_builtin; refine wpList_append_sep rfl _ _ 22 rfl w1.heap.size 37 i0 (.agg #[.int .i64 0, .int .i64 0]) 2 16 Tryd.underlying22 Hi.out hz0 hz1 hz2 rfl (by decide) _ l.length (cv l) rfl ((HO3.out.alloc _).alloc _) ⟨w3.heap.size + 1, 0, none⟩ 1 1 [.int .i64 k, .int .i64 n] rfl rfl (new_two (by have := heap_alloc_new (w3.alloc (.cells #[.int .i64 k, .int .i64 n] 37)) (.cells #[.int .i64 k, .int .i64 n] 37); simpa using this)) (by simp [Value.oneCell']) hm1 (by have := HL.out; omega) (by have := hB3.size; simp; omega) ?_)
          intro v4 w4 hown4 hgrow4 hap4
          obtain ⟨a4, c4, rfl⟩ := iOwn_form hown4
          have hB4 : Below w1.heap.size w1 w4 := ((hB3.alloc hB3.size _).alloc (by have := hB3.size; simp; omega) _).grown hgrow4 (by have := hB3.size; simp; omega) (fun k hk => (hol.out k hk).1)
          have HO4 := hide hown4
          clear hown4 hgrow4 hap4
          go_wp2_with fail
          exact ⟨⟨i + 1, l ++ [⟨k, n⟩], by omega, by go_num, by simp; have := HL.out; omega, by rw [List.take_succ_eq_append_getElem hlt, List.map_append, HM.out, List.map_append, List.map_singleton, List.map_singleton, HX.out, HD.out], by rw [List.length_append, cv_app]; exact HO4.out, hB4⟩, by simp [intOf]; omega⟩
        | false =>
          rw [hb] at HCo
          have HNo : Hid (R = none) := hide (HB.out _ (List.getElem_mem hlt) (by rw [HX.out]; exact prB_no hb))
          obtain ⟨⟨k, n⟩, hc⟩ : ∃ c, c = prg x.data.toList := ⟨_, rfl⟩
          rw [← hc] at HCo
          clear hc hb HE HB
          go_wp2_with fail
          refine Calls.mono HCo.out ?_
          rintro e w3 ⟨rfl, hb3⟩
          have hB3 : Below w1.heap.size w1 w3 := hB.trans (hb3.mono hB.size)
          clear hb3 HCo p1 HO
          go_wp2_with fail
          exact bodyPost_ret (v := .tuple #[.slice none 0 0, .bool false]) (by simp [results, Tryd.results6, go_sem]) rfl ⟨_, by rw [HNo.out]; rfl, by rw [HNo.out]; exact World.ownsRow_nil _ _ _ _, HB1.out.trans ((hB3.alloc hB3.size _).mono HB1.out.size)⟩
      · obtain rfl : i = WS.length := by omega
        have hM := HM.out
        rw [List.take_length] at hM
        have HRR := hide (HE.out l hM)
        obtain ⟨ra, rc, e3, -, hrow⟩ := cOwn_row HO.out
        simp only [Value.slice.injEq, true_and] at e3
        obtain ⟨rfl, rfl⟩ := e3
        have HG := hide (implGoodT_any oa oc l wr (by have := HL.out; omega) hrow)
        clear hM hrow HB HE
        by_cases hg : goodT l = true
        · rw [hg] at HG
          have HY : Hid (R = some l) := hide (by rw [HRR.out, if_pos hg])
          clear hg
          go_wp2_with fail
          refine Calls.mono HG.out ?_
          rintro e w3 ⟨rfl, hb3⟩
          have HO3 := hide (tOwn_keep HO.out (fun k _ hk => hb3.block k hk))
          have hB3 : Below w1.heap.size w1 w3 := hB.trans (hb3.mono hB.size)
          clear hb3 HG
          go_wp2_with fail
          exact bodyPost_ret (v := .tuple #[.slice oa l.length oc, .bool true]) (by simp [results, Tryd.results6, go_sem]) rfl ⟨_, by rw [HY.out]; rfl, by rw [HY.out]; exact own_low HO3.out HB1.out.size, HB1.out.trans (hB3.mono HB1.out.size)⟩
        · rw [Bool.not_eq_true] at hg
          rw [hg] at HG
          have HY : Hid (R = none) := hide (by rw [HRR.out, if_neg (by rw [hg]; simp)])
          clear hg
          go_wp2_with fail
          refine Calls.mono HG.out ?_
          rintro e w3 ⟨rfl, hb3⟩
          have hB3 : Below w1.heap.size w1 w3 := hB.trans (hb3.mono hB.size)
          clear hb3 HG
          go_wp2_with fail
          exact bodyPost_ret (v := .tuple #[.slice none 0 0, .bool false]) (by simp [results, Tryd.results6, go_sem]) rfl ⟨_, by rw [HY.out]; rfl, by rw [HY.out]; exact World.ownsRow_nil _ _ _ _, HB1.out.trans (hB3.mono HB1.out.size)⟩
  · have hs' : (2000 : Int) < (s.size : Int) := by omega
    have HY : Hid (R = none) := hide (by rw [HR.out, rdT_long hs])
    rw [HY.out]
    go_enter Tryd.func6, Tryd.ntmps6
    go_wp2_with fail
    exact bodyPost_ret (v := .tuple #[.slice none 0 0, .bool false]) (by simp [results, Tryd.results6, go_sem]) rfl ⟨_, rfl, World.ownsRow_nil _ _ _ _, Below.refl _ _⟩
end Go.Proofs.YthnkdlhkldcaoaaDoor.W

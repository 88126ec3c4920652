/-
  A term read by the specification: the contract of ReadTerm. Conditions: none.
-/
import Derived.Test.YthnkdlhkldcaoaaDoorRdS
namespace Go.Proofs.YthnkdlhkldcaoaaDoor.W
open Go.ChangeShapes Go.WideShapes Go.ChangeAt Go.RowKit
set_option linter.unusedVariables false

/-- What ReadTerm tells. -/
def RT (w : World) (r : Option (List Cc)) (e : Ending) (w' : World) : Prop := ∃ v, e = .returned (.tuple #[v, .bool r.isSome]) ∧ w'.ownsRow w.heap.size 37 2 v (r.getD []).length (cv (r.getD [])) ∧ Below w.heap.size w w'
theorem infoCell : (Tryd.prog.info? 37).map (fun i => (i.zero, i.size, i.bytes)) = some (some (.agg #[.int .i64 0, .int .i64 0]), 2, 16) := by kernel_rfl
theorem new_two {w : World} {g : Nat} {u v : Value} {t : TypeId} (h : w.heap[g]? = some (.cells #[u, v] t (0, 0))) : ∀ j x, [u, v][j]? = some x → w.cell? ((⟨g, 0, none⟩ : Addr).add j) = some x := by
  intro j x hx
  rw [iAdd, Nat.zero_add, cell_of_blk h]
  match j with
  | 0 => simpa using hx
  | 1 => simpa using hx
  | j + 2 => simp at hx

theorem cutL_word : ∀ {L u : List UInt8}, u ∈ cutL L → u.length ≤ L.length
  | [], u, h => by
    simp only [cutL, List.mem_singleton] at h
    rw [h]; exact Nat.le_refl _
  | b :: L, u, h => by
    unfold cutL at h
    split at h
    · rcases List.mem_cons.1 h with rfl | h
      · simp
      · have := cutL_word h; simp; omega
    · cases hc : cutL L with
      | nil => rw [hc] at h; simp only [List.mem_singleton] at h; rw [h]; simp
      | cons x xs =>
        rw [hc] at h
        rcases List.mem_cons.1 h with rfl | h
        · have := cutL_word (L := L) (u := x) (by rw [hc]; simp)
          simp; omega
        · have := cutL_word (L := L) (u := u) (by rw [hc]; exact List.mem_cons_of_mem _ h)
          simp; omega
theorem own_low {w : World} {base base' n size : Nat} {e : TypeId} {v : Value} {xs : List Value} (h : w.ownsRow base e size v n xs) (hb : base' ≤ base) : w.ownsRow base' e size v n xs := by
  refine ⟨h.1, ?_⟩
  rcases h.2 with h1 | ⟨g, cap, cur, hv, hg, rest⟩
  · exact .inl h1
  · exact .inr ⟨g, cap, cur, hv, by omega, rest⟩

set_option maxRecDepth 20000 in
set_option maxHeartbeats 8000000 in
theorem specRead_any (s : ByteArray) (w : World) : Calls Tryd.prog 5 #[.string s] w (RT w (rdT s)) := by
  obtain ⟨R, hR⟩ : ∃ R, R = rdT s := ⟨_, rfl⟩
  rw [← hR]
  have HR := hide hR
  clear hR
  by_cases hs : s.size ≤ 2000
  · have hs' : ¬ (2000 : Int) < (s.size : Int) := by omega
    obtain ⟨i0, hi0, hz0, hz1, hz2⟩ := infoPartsT infoCell
    have Hi := hide hi0
    have HC := hide (l3Split_any s w hs)
    have HE := hide (fun (l : List Cc) h => rdT_end (s := s) (l := l) hs h)
    have HB := hide (fun (x : List UInt8) hw h => rdT_bad (s := s) (w := x) hw h)
    rw [← HR.out] at HE HB
    have hcl := cutL_len s.data.toList
    obtain ⟨WS, hWS⟩ : ∃ WS, WS = cutL s.data.toList := ⟨_, rfl⟩
    rw [← hWS] at HC HE HB hcl
    have hwl : WS.length ≤ 2001 := by simp at hcl; omega
    have HSz : Hid (s.data.toList.length ≤ 2000) := hide (by simpa using hs)
    have word_le : ∀ {u : List UInt8}, u ∈ WS → u.length ≤ s.data.toList.length := fun h => cutL_word (hWS ▸ h)
    clear hWS hcl hi0
    go_enter Tryd.func5, Tryd.ntmps5
    go_wp2_with fail
    refine Calls.mono HC.out ?_
    rintro e w1 ⟨v, rfl, hS, hb1⟩
    have HS := hide hS
    have HB1 := hide hb1
    obtain ⟨sb, so, sc, rfl, hsb, -⟩ := hS
    clear hb1 HC
    go_wp2_with fail
    go_loopw [4, 16] (fun v4 v16 w' => ∃ (i : Nat) (l : List Cc), i ≤ WS.length ∧ v16 = .int .i64 (i : Int) ∧ l.length = i ∧ (WS.take i).map dcell = l.map some ∧ w'.ownsRow w1.heap.size 37 2 v4 l.length (cv l) ∧ Below w1.heap.size w1 w') (fun _ i _ => WS.length - (intOf i).toNat)
    case atStart => exact ⟨0, [], by omega, rfl, rfl, rfl, World.ownsRow_nil _ _ _ _, Below.refl _ _⟩
    case round =>
      obtain ⟨i, l, hi, rfl, hl, hmap, ho, hB⟩ := hrel
      obtain ⟨oa, oc, rfl⟩ := iOwn_form ho
      have HM := hide hmap
      have HO := hide ho
      have hol := hide ho.lt
      have HL := hide hl
      clear hmap ho hl
      by_cases hlt : i < WS.length
      · have hlt' : (i : Int) < (WS.length : Int) := by omega
        obtain ⟨b2, o2, c2, e2, hsb2, hc2⟩ := HS.out.at hB
        simp only [Value.slice.injEq, Option.some.injEq, Addr.mk.injEq] at e2
        obtain ⟨⟨rfl, rfl, -⟩, -, rfl⟩ := e2
        have p0 := hc2 i hlt
        clear hc2
        obtain ⟨x, hx⟩ : ∃ x : ByteArray, x = ⟨WS[i].toArray⟩ := ⟨_, rfl⟩
        have HX := hide (show WS[i] = x.data.toList by rw [hx])
        have p1 : wr.cell? ⟨sb, so + i, none⟩ = some (.string x) := by rw [hx]; exact p0
        have hm1 : l.length + 1 ≤ maxLen := by have := HL.out; unfold maxLen; omega
        clear p0 hx
        by_cases h92 : x = ⟨#[92]⟩
        · subst h92
          have HD : Hid (dcell (⟨#[92]⟩ : ByteArray).data.toList = some ⟨3, 0⟩) := hide rfl
          clear HB HE
          go_wp2_with (at_builtin; refine wpList_append_sep rfl _ _ 22 rfl w1.heap.size 37 i0 (.agg #[.int .i64 0, .int .i64 0]) 2 16 Tryd.underlying22 Hi.out hz0 hz1 hz2 rfl (by decide) _ l.length (cv l) rfl ((HO.out.alloc _).alloc _) ⟨wr.heap.size + 1, 0, none⟩ 1 1 [.int .i64 3, .int .i64 0] rfl rfl (new_two (by have := heap_alloc_new (wr.alloc (.cells #[.int .i64 3, .int .i64 0] 37)) (.cells #[.int .i64 3, .int .i64 0] 37); simpa using this)) (by simp [Value.oneCell']) hm1 (by have := HL.out; omega) (by have := hB.size; simp; omega) ?_)
          intro v4 w4 hown4 hgrow4 hap4
          obtain ⟨a4, c4, rfl⟩ := iOwn_form hown4
          have hB4 : Below w1.heap.size w1 w4 := ((hB.alloc hB.size _).alloc (by have := hB.size; simp; omega) _).grown hgrow4 (by have := hB.size; simp; omega) (fun k hk => (hol.out k hk).1)
          have HO4 := hide hown4
          clear hown4 hgrow4 hap4
          go_wp2_with fail
          exact ⟨⟨i + 1, l ++ [⟨3, 0⟩], by omega, by go_num, by simp; have := HL.out; omega, by rw [List.take_succ_eq_append_getElem hlt, List.map_append, HM.out, List.map_append, List.map_singleton, List.map_singleton, HX.out, HD.out], by rw [List.length_append, cv_app]; exact HO4.out, hB4⟩, by simp [intOf]; omega⟩
        by_cases h64 : x = ⟨#[64]⟩
        · subst h64
          have HD : Hid (dcell (⟨#[64]⟩ : ByteArray).data.toList = some ⟨4, 0⟩) := hide rfl
          clear h92 HB HE
          go_wp2_with (at_builtin; refine wpList_append_sep rfl _ _ 22 rfl w1.heap.size 37 i0 (.agg #[.int .i64 0, .int .i64 0]) 2 16 Tryd.underlying22 Hi.out hz0 hz1 hz2 rfl (by decide) _ l.length (cv l) rfl ((HO.out.alloc _).alloc _) ⟨wr.heap.size + 1, 0, none⟩ 1 1 [.int .i64 4, .int .i64 0] rfl rfl (new_two (by have := heap_alloc_new (wr.alloc (.cells #[.int .i64 4, .int .i64 0] 37)) (.cells #[.int .i64 4, .int .i64 0] 37); simpa using this)) (by simp [Value.oneCell']) hm1 (by have := HL.out; omega) (by have := hB.size; simp; omega) ?_)
          intro v4 w4 hown4 hgrow4 hap4
          obtain ⟨a4, c4, rfl⟩ := iOwn_form hown4
          have hB4 : Below w1.heap.size w1 w4 := ((hB.alloc hB.size _).alloc (by have := hB.size; simp; omega) _).grown hgrow4 (by have := hB.size; simp; omega) (fun k hk => (hol.out k hk).1)
          have HO4 := hide hown4
          clear hown4 hgrow4 hap4
          go_wp2_with fail
          exact ⟨⟨i + 1, l ++ [⟨4, 0⟩], by omega, by go_num, by simp; have := HL.out; omega, by rw [List.take_succ_eq_append_getElem hlt, List.map_append, HM.out, List.map_append, List.map_singleton, List.map_singleton, HX.out, HD.out], by rw [List.length_append, cv_app]; exact HO4.out, hB4⟩, by simp [intOf]; omega⟩
        by_cases h43 : x = ⟨#[43]⟩
        · subst h43
          have HD : Hid (dcell (⟨#[43]⟩ : ByteArray).data.toList = some ⟨5, 0⟩) := hide rfl
          clear h92 h64 HB HE
          go_wp2_with (at_builtin; refine wpList_append_sep rfl _ _ 22 rfl w1.heap.size 37 i0 (.agg #[.int .i64 0, .int .i64 0]) 2 16 Tryd.underlying22 Hi.out hz0 hz1 hz2 rfl (by decide) _ l.length (cv l) rfl ((HO.out.alloc _).alloc _) ⟨wr.heap.size + 1, 0, none⟩ 1 1 [.int .i64 5, .int .i64 0] rfl rfl (new_two (by have := heap_alloc_new (wr.alloc (.cells #[.int .i64 5, .int .i64 0] 37)) (.cells #[.int .i64 5, .int .i64 0] 37); simpa using this)) (by simp [Value.oneCell']) hm1 (by have := HL.out; omega) (by have := hB.size; simp; omega) ?_)
          intro v4 w4 hown4 hgrow4 hap4
          obtain ⟨a4, c4, rfl⟩ := iOwn_form hown4
          have hB4 : Below w1.heap.size w1 w4 := ((hB.alloc hB.size _).alloc (by have := hB.size; simp; omega) _).grown hgrow4 (by have := hB.size; simp; omega) (fun k hk => (hol.out k hk).1)
          have HO4 := hide hown4
          clear hown4 hgrow4 hap4
          go_wp2_with fail
          exact ⟨⟨i + 1, l ++ [⟨5, 0⟩], by omega, by go_num, by simp; have := HL.out; omega, by rw [List.take_succ_eq_append_getElem hlt, List.map_append, HM.out, List.map_append, List.map_singleton, List.map_singleton, HX.out, HD.out], by rw [List.length_append, cv_app]; exact HO4.out, hB4⟩, by simp [intOf]; omega⟩
        by_cases h63 : x = ⟨#[63]⟩
        · subst h63
          have HD : Hid (dcell (⟨#[63]⟩ : ByteArray).data.toList = some ⟨6, 0⟩) := hide rfl
          clear h92 h64 h43 HB HE
          go_wp2_with (at_builtin; refine wpList_append_sep rfl _ _ 22 rfl w1.heap.size 37 i0 (.agg #[.int .i64 0, .int .i64 0]) 2 16 Tryd.underlying22 Hi.out hz0 hz1 hz2 rfl (by decide) _ l.length (cv l) rfl ((HO.out.alloc _).alloc _) ⟨wr.heap.size + 1, 0, none⟩ 1 1 [.int .i64 6, .int .i64 0] rfl rfl (new_two (by have := heap_alloc_new (wr.alloc (.cells #[.int .i64 6, .int .i64 0] 37)) (.cells #[.int .i64 6, .int .i64 0] 37); simpa using this)) (by simp [Value.oneCell']) hm1 (by have := HL.out; omega) (by have := hB.size; simp; omega) ?_)
          intro v4 w4 hown4 hgrow4 hap4
          obtain ⟨a4, c4, rfl⟩ := iOwn_form hown4
          have hB4 : Below w1.heap.size w1 w4 := ((hB.alloc hB.size _).alloc (by have := hB.size; simp; omega) _).grown hgrow4 (by have := hB.size; simp; omega) (fun k hk => (hol.out k hk).1)
          have HO4 := hide hown4
          clear hown4 hgrow4 hap4
          go_wp2_with fail
          exact ⟨⟨i + 1, l ++ [⟨6, 0⟩], by omega, by go_num, by simp; have := HL.out; omega, by rw [List.take_succ_eq_append_getElem hlt, List.map_append, HM.out, List.map_append, List.map_singleton, List.map_singleton, HX.out, HD.out], by rw [List.length_append, cv_app]; exact HO4.out, hB4⟩, by simp [intOf]; omega⟩
        by_cases h61 : x = ⟨#[61]⟩
        · subst h61
          have HD : Hid (dcell (⟨#[61]⟩ : ByteArray).data.toList = some ⟨7, 0⟩) := hide rfl
          clear h92 h64 h43 h63 HB HE
          go_wp2_with (at_builtin; refine wpList_append_sep rfl _ _ 22 rfl w1.heap.size 37 i0 (.agg #[.int .i64 0, .int .i64 0]) 2 16 Tryd.underlying22 Hi.out hz0 hz1 hz2 rfl (by decide) _ l.length (cv l) rfl ((HO.out.alloc _).alloc _) ⟨wr.heap.size + 1, 0, none⟩ 1 1 [.int .i64 7, .int .i64 0] rfl rfl (new_two (by have := heap_alloc_new (wr.alloc (.cells #[.int .i64 7, .int .i64 0] 37)) (.cells #[.int .i64 7, .int .i64 0] 37); simpa using this)) (by simp [Value.oneCell']) hm1 (by have := HL.out; omega) (by have := hB.size; simp; omega) ?_)
          intro v4 w4 hown4 hgrow4 hap4
          obtain ⟨a4, c4, rfl⟩ := iOwn_form hown4
          have hB4 : Below w1.heap.size w1 w4 := ((hB.alloc hB.size _).alloc (by have := hB.size; simp; omega) _).grown hgrow4 (by have := hB.size; simp; omega) (fun k hk => (hol.out k hk).1)
          have HO4 := hide hown4
          clear hown4 hgrow4 hap4
          go_wp2_with fail
          exact ⟨⟨i + 1, l ++ [⟨7, 0⟩], by omega, by go_num, by simp; have := HL.out; omega, by rw [List.take_succ_eq_append_getElem hlt, List.map_append, HM.out, List.map_append, List.map_singleton, List.map_singleton, HX.out, HD.out], by rw [List.length_append, cv_app]; exact HO4.out, hB4⟩, by simp [intOf]; omega⟩
        have hdf : dcell x.data.toList = if x.data.toList.head? = some 118 then (intL x.data.toList.tail).map (fun n => (⟨1, n⟩ : Cc)) else (intL x.data.toList).map (fun n => (⟨2, n⟩ : Cc)) := by
          unfold dcell
          rw [if_neg (fun e => h92 (ba_ext e)), if_neg (fun e => h64 (ba_ext e)), if_neg (fun e => h43 (ba_ext e)), if_neg (fun e => h63 (ba_ext e)), if_neg (fun e => h61 (ba_ext e))]
        have q92 : (x.toList == [92]) = false := by rw [Lib.toList_data, beq_eq_false_iff_ne]; exact fun e => h92 (ba_ext e)
        have q64 : (x.toList == [64]) = false := by rw [Lib.toList_data, beq_eq_false_iff_ne]; exact fun e => h64 (ba_ext e)
        have q43 : (x.toList == [43]) = false := by rw [Lib.toList_data, beq_eq_false_iff_ne]; exact fun e => h43 (ba_ext e)
        have q63 : (x.toList == [63]) = false := by rw [Lib.toList_data, beq_eq_false_iff_ne]; exact fun e => h63 (ba_ext e)
        have q61 : (x.toList == [61]) = false := by rw [Lib.toList_data, beq_eq_false_iff_ne]; exact fun e => h61 (ba_ext e)
        by_cases h0 : x = ⟨#[]⟩
        · subst h0
          have HDN : Hid (dcell (⟨#[]⟩ : ByteArray).data.toList = none) := hide (by rw [hdf]; rfl)
          have HI := hide (fun w' => l3Int_any ⟨#[]⟩ w' (by decide))
          rw [show intL (⟨#[]⟩ : ByteArray).data.toList = none from rfl] at HI
          clear hdf HE h92 h64 h43 h63 h61 q92 q64 q43 q63 q61
          have HNo : Hid (R = none) := hide (HB.out _ (List.getElem_mem hlt) (fun y hy => by rw [HX.out, HDN.out] at hy; cases hy))
          go_wp2_with (go_at_call 16; (with_reducible refine Calls.mono (HI.out _) ?_); rintro e w3 ⟨rfl, hw⟩; obtain rfl := hw.symm; clear hw)
          exact bodyPost_ret (v := .tuple #[.slice none 0 0, .bool false]) (by simp [results, Tryd.results5, go_sem]) rfl ⟨_, by rw [HNo.out]; rfl, by rw [HNo.out]; exact World.ownsRow_nil _ _ _ _, HB1.out.trans ((hB.alloc hB.size _).mono HB1.out.size)⟩
        · have hx0 : 0 < x.size := by
            rcases Nat.eq_zero_or_pos x.size with h | h
            · exact absurd (ba_ext (a := x) (b := ⟨#[]⟩) (List.eq_nil_of_length_eq_zero (by rw [rb_len]; exact h))) h0
            · exact h
          have q0 : (x.toList == []) = false := by rw [Lib.toList_data, beq_eq_false_iff_ne]; exact fun e => h0 (ba_ext e)
          have hx1 : (0 : Int) < (x.size : Int) := by omega
          have hx2 : (1 : Int) ≤ (x.size : Int) := by omega
          have hxl : x.size ≤ 2000 := by
            have h1 := HX.out
            have h2 := word_le (List.getElem_mem hlt)
            rw [h1] at h2
            simpa using Nat.le_trans h2 HSz.out
          by_cases hv : (((x[0]'hx0).toNat : Int) == 118) = true
          · rw [if_pos (by rw [rb_head x hx0]; exact congrArg some ((rb_is _ 118 (by decide)).2 (by simpa using hv)))] at hdf
            obtain ⟨m, hm⟩ : ∃ m, m = x.extract 1 x.size := ⟨_, rfl⟩
            rw [← rb_tail, ← hm] at hdf
            have HMM := hide hm
            have HDe := hide (show dcell x.data.toList = (intL m.data.toList).map (fun n => (⟨1, n⟩ : Cc)) from hdf)
            have HI := hide (fun w' => l3Int_any m w' (by rw [hm]; simp; omega))
            cases hI : intL m.data.toList with
            | none =>
              rw [hI] at HI HDe
              have HDN : Hid (dcell x.data.toList = none) := hide (by rw [HDe.out]; rfl)
              clear HDe hI HE h92 h64 h43 h63 h61 h0 hm
              go_upto_region 13 with fail
              rw [← HMM.out]
              have HNo : Hid (R = none) := hide (HB.out _ (List.getElem_mem hlt) (fun y hy => by rw [HX.out, HDN.out] at hy; cases hy))
              go_wp2_with (go_at_call 16; (with_reducible refine Calls.mono (HI.out _) ?_); rintro e w3 ⟨rfl, hw⟩; obtain rfl := hw.symm; clear hw)
              exact bodyPost_ret (v := .tuple #[.slice none 0 0, .bool false]) (by simp [results, Tryd.results5, go_sem]) rfl ⟨_, by rw [HNo.out]; rfl, by rw [HNo.out]; exact World.ownsRow_nil _ _ _ _, HB1.out.trans ((hB.alloc hB.size _).mono HB1.out.size)⟩
            | some n =>
              rw [hI] at HI HDe
              have HD : Hid (dcell x.data.toList = some ⟨1, n⟩) := hide (by rw [HDe.out]; rfl)
              clear HDe hI HE HB h92 h64 h43 h63 h61 h0 hm
              go_upto_region 13 with fail
              rw [← HMM.out]
              go_wp2_with (first | (go_at_call 16; (with_reducible refine Calls.mono (HI.out _) ?_); rintro e w3 ⟨rfl, hw⟩; obtain rfl := hw.symm; clear hw) | (at_builtin; refine wpList_append_sep rfl _ _ 22 rfl w1.heap.size 37 i0 (.agg #[.int .i64 0, .int .i64 0]) 2 16 Tryd.underlying22 Hi.out hz0 hz1 hz2 rfl (by decide) _ l.length (cv l) rfl ((HO.out.alloc _).alloc _) ⟨wr.heap.size + 1, 0, none⟩ 1 1 [.int .i64 1, .int .i64 n] rfl rfl (new_two (by have := heap_alloc_new (wr.alloc (.cells #[.int .i64 1, .int .i64 n] 37)) (.cells #[.int .i64 1, .int .i64 n] 37); simpa using this)) (by simp [Value.oneCell']) hm1 (by have := HL.out; omega) (by have := hB.size; simp; omega) ?_))
              intro v4 w4 hown4 hgrow4 hap4
              obtain ⟨a4, c4, rfl⟩ := iOwn_form hown4
              have hB4 : Below w1.heap.size w1 w4 := ((hB.alloc hB.size _).alloc (by have := hB.size; simp; omega) _).grown hgrow4 (by have := hB.size; simp; omega) (fun k hk => (hol.out k hk).1)
              have HO4 := hide hown4
              clear hown4 hgrow4 hap4
              go_wp2_with fail
              exact ⟨⟨i + 1, l ++ [⟨1, n⟩], by omega, by go_num, by simp; have := HL.out; omega, by rw [List.take_succ_eq_append_getElem hlt, List.map_append, HM.out, List.map_append, List.map_singleton, List.map_singleton, HX.out, HD.out], by rw [List.length_append, cv_app]; exact HO4.out, hB4⟩, by simp [intOf]; omega⟩
          · rw [if_neg (by rw [rb_head x hx0]; intro hc; simp only [Option.some.injEq] at hc; exact hv (by simpa using (rb_is _ 118 (by decide)).1 hc))] at hdf
            rw [Bool.not_eq_true] at hv
            have HDe := hide (show dcell x.data.toList = (intL x.data.toList).map (fun n => (⟨2, n⟩ : Cc)) from hdf)
            have HI := hide (fun w' => l3Int_any x w' (by omega))
            cases hI : intL x.data.toList with
            | none =>
              rw [hI] at HI HDe
              have HDN : Hid (dcell x.data.toList = none) := hide (by rw [HDe.out]; rfl)
              clear HDe hI HE h92 h64 h43 h63 h61 h0
              have HNo : Hid (R = none) := hide (HB.out _ (List.getElem_mem hlt) (fun y hy => by rw [HX.out, HDN.out] at hy; cases hy))
              go_wp2_with (go_at_call 16; (with_reducible refine Calls.mono (HI.out _) ?_); rintro e w3 ⟨rfl, hw⟩; obtain rfl := hw.symm; clear hw)
              exact bodyPost_ret (v := .tuple #[.slice none 0 0, .bool false]) (by simp [results, Tryd.results5, go_sem]) rfl ⟨_, by rw [HNo.out]; rfl, by rw [HNo.out]; exact World.ownsRow_nil _ _ _ _, HB1.out.trans ((hB.alloc hB.size _).mono HB1.out.size)⟩
            | some n =>
              rw [hI] at HI HDe
              have HD : Hid (dcell x.data.toList = some ⟨2, n⟩) := hide (by rw [HDe.out]; rfl)
              clear HDe hI HE HB h92 h64 h43 h63 h61 h0
              go_wp2_with (first | (go_at_call 16; (with_reducible refine Calls.mono (HI.out _) ?_); rintro e w3 ⟨rfl, hw⟩; obtain rfl := hw.symm; clear hw) | (at_builtin; refine wpList_append_sep rfl _ _ 22 rfl w1.heap.size 37 i0 (.agg #[.int .i64 0, .int .i64 0]) 2 16 Tryd.underlying22 Hi.out hz0 hz1 hz2 rfl (by decide) _ l.length (cv l) rfl ((HO.out.alloc _).alloc _) ⟨wr.heap.size + 1, 0, none⟩ 1 1 [.int .i64 2, .int .i64 n] rfl rfl (new_two (by have := heap_alloc_new (wr.alloc (.cells #[.int .i64 2, .int .i64 n] 37)) (.cells #[.int .i64 2, .int .i64 n] 37); simpa using this)) (by simp [Value.oneCell']) hm1 (by have := HL.out; omega) (by have := hB.size; simp; omega) ?_))
              intro v4 w4 hown4 hgrow4 hap4
              obtain ⟨a4, c4, rfl⟩ := iOwn_form hown4
              have hB4 : Below w1.heap.size w1 w4 := ((hB.alloc hB.size _).alloc (by have := hB.size; simp; omega) _).grown hgrow4 (by have := hB.size; simp; omega) (fun k hk => (hol.out k hk).1)
              have HO4 := hide hown4
              clear hown4 hgrow4 hap4
              go_wp2_with fail
              exact ⟨⟨i + 1, l ++ [⟨2, n⟩], by omega, by go_num, by simp; have := HL.out; omega, by rw [List.take_succ_eq_append_getElem hlt, List.map_append, HM.out, List.map_append, List.map_singleton, List.map_singleton, HX.out, HD.out], by rw [List.length_append, cv_app]; exact HO4.out, hB4⟩, by simp [intOf]; omega⟩
      · obtain rfl : i = WS.length := by omega
        have hM := HM.out
        rw [List.take_length] at hM
        have HRR := hide (HE.out l hM)
        obtain ⟨ra, rc, e3, -, hrow⟩ := cOwn_row HO.out
        simp only [Value.slice.injEq, true_and] at e3
        obtain ⟨rfl, rfl⟩ := e3
        have HG := hide (specGoodT_any oa oc l wr (by have := HL.out; omega) hrow)
        clear hM hrow HB HE
        by_cases hg : goodT l = true
        · rw [hg] at HG
          have HY : Hid (R = some l) := hide (by rw [HRR.out, if_pos hg])
          clear hg
          go_wp2_with fail
          refine Calls.mono HG.out ?_
          rintro e w3 ⟨rfl, hb3⟩
          have HO3 := hide (tOwn_keep HO.out (fun k _ hk => hb3.block k hk))
          have hB3 : Below w1.heap.size w1 w3 := hB.trans (hb3.mono hB.size)
          clear hb3 HG
          go_wp2_with fail
          exact bodyPost_ret (v := .tuple #[.slice oa l.length oc, .bool true]) (by simp [results, Tryd.results5, go_sem]) rfl ⟨_, by rw [HY.out]; rfl, by rw [HY.out]; exact own_low HO3.out HB1.out.size, HB1.out.trans (hB3.mono HB1.out.size)⟩
        · rw [Bool.not_eq_true] at hg
          rw [hg] at HG
          have HY : Hid (R = none) := hide (by rw [HRR.out, if_neg (by rw [hg]; simp)])
          clear hg
          go_wp2_with fail
          refine Calls.mono HG.out ?_
          rintro e w3 ⟨rfl, hb3⟩
          have hB3 : Below w1.heap.size w1 w3 := hB.trans (hb3.mono hB.size)
          clear hb3 HG
          go_wp2_with fail
          exact bodyPost_ret (v := .tuple #[.slice none 0 0, .bool false]) (by simp [results, Tryd.results5, go_sem]) rfl ⟨_, by rw [HY.out]; rfl, by rw [HY.out]; exact World.ownsRow_nil _ _ _ _, HB1.out.trans (hB3.mono HB1.out.size)⟩
  · have hs' : (2000 : Int) < (s.size : Int) := by omega
    have HY : Hid (R = none) := hide (by rw [HR.out, rdT_long hs])
    rw [HY.out]
    go_enter Tryd.func5, Tryd.ntmps5
    go_wp2_with fail
    exact bodyPost_ret (v := .tuple #[.slice none 0 0, .bool false]) (by simp [results, Tryd.results5, go_sem]) rfl ⟨_, rfl, World.ownsRow_nil _ _ _ _, Below.refl _ _⟩
end Go.Proofs.YthnkdlhkldcaoaaDoor.W

/-
  The specification's StepsOf. Conditions: at most 1048576 cells.
-/
import Derived.Test.YtbimfnnbfbfdoaaTeSs
import Derived.Test.YtbimfnnbfbfdoaaTeSp
import Derived.Test.YtbimfnnbfbfdoaaTeT
namespace Go.Proofs.Ytbimfnnbfbfdoaa.W
open Go.ChangeShapes Go.WideShapes Go.ChangeAt Go.RowKit
set_option linter.unusedVariables false

theorem coll_eq {α : Type} : ∀ {l : List (Option α)} {xs : List α}, coll l = some xs → l = xs.map some
  | [], xs, h => by simp [coll] at h; subst h; rfl
  | p :: r, xs, h => by
    cases p with
    | none => cases h
    | some y =>
      simp only [coll] at h
      cases hc : coll r with
      | none => rw [hc] at h; cases h
      | some ys =>
        rw [hc] at h
        simp only [Option.map_some, Option.some.injEq] at h
        subst h
        simp [coll_eq hc]
theorem coll_tgd_none : ∀ {l : List (Option (Cc × F))}, coll l = none → coll (l.map tgd) = none
  | [], h => by cases h
  | p :: r, h => by
    cases p with
    | none => rfl
    | some y =>
      simp only [coll] at h
      have hc : coll r = none := by cases hr : coll r with
        | none => rfl
        | some ys => rw [hr] at h; cases h
      simp only [List.map_cons, coll, coll_tgd_none hc]
      cases tgd (some y) <;> rfl

set_option maxRecDepth 20000 in
set_option maxHeartbeats 2000000 in
theorem specSteps_bad (ad : Option Addr) (c : Nat) (l : List Cc) (w : World) (hl : l.length ≤ 1048576) (ht : treeT l = none) (h : CRow w ad l) :
    Calls Try.prog 21 #[.slice ad l.length c] w fun e w' => RT w none e w' := by
  have HC := hide (l3Tree_any ad c l w hl h)
  rw [ht] at HC
  clear h ht
  go_enter Try.func21, Try.ntmps21
  go_wp2_with fail
  refine Calls.mono HC.out ?_
  rintro e w1 ⟨hb1, k, n, sad, sn, sc, rfl⟩
  clear HC
  go_wp2_with fail
  exact bodyPost_ret (v := .tuple #[.slice none 0 0, .bool false]) (by simp [results, Try.results21, go_sem]) rfl ⟨_, rfl, OO.nil _ _, hb1.alloc hb1.size _⟩

set_option maxRecDepth 20000 in
set_option maxHeartbeats 4000000 in
theorem specSteps_good (ad : Option Addr) (c : Nat) (l : List Cc) (x : Cc) (k : F) (w : World) (hl : l.length ≤ 1048576) (ht : treeT l = some (.cons x k .nil)) (h : CRow w ad l) :
    Calls Try.prog 21 #[.slice ad l.length c] w fun e w' => RT w (stR l) e w' := by
  have hr : stR l = coll ((shv x k).map tgd) := by unfold stR shv; rw [ht, List.map_map]; rfl
  have HC := hide (l3Tree_any ad c l w hl h)
  rw [ht] at HC
  obtain ⟨e1, ho, -, e4, -⟩ := treeT_flat ht
  obtain ⟨g1, l1, o1, -⟩ := ho
  have hok : okT x k := ⟨g1, l1, o1⟩
  have hk6 : k.flat.length + 1 ≤ 600 := by rw [e1] at e4; simpa [F.flat] using e4
  rw [hr]
  obtain ⟨R, hR⟩ : ∃ R, R = coll ((shv x k).map tgd) := ⟨_, rfl⟩
  rw [← hR]
  have HSt := hide (fun (s : Value) (P : Nat → Prop) (w' : World) (hT : KidT w' P k s) => l4Steps_any k x s P w' hok hk6 hT)
  have hlen : (shv x k).length ≤ 600 := Nat.le_trans (sh_len hok) hk6
  have HFl := hide (fun p hp => shv_flat hok hk6 (p := p) hp)
  obtain ⟨SV, hSV⟩ : ∃ SV, SV = shv x k := ⟨_, rfl⟩
  rw [← hSV] at hR HSt hlen HFl
  have HR := hide hR
  obtain ⟨i0, hi0, hz0, hz1, hz2⟩ := infoPartsT infoS
  have Hi := hide hi0
  clear ht hr h e1 e4 g1 l1 o1 hok hk6 hR hSV hi0
  go_enter Try.func21, Try.ntmps21
  go_wp2_with fail
  refine Calls.mono HC.out ?_
  rintro e w1 ⟨hb1, x', k', s, hxe, rfl, hT⟩
  simp only [F.cons.injEq, and_true] at hxe
  obtain ⟨rfl, rfl⟩ := hxe
  obtain ⟨sad, sc, rfl⟩ := hT.form
  have HS1 := hide (fun o : Obj => HSt.out _ _ (w1.alloc o) (hT.below ((Below.refl _ _).alloc (Nat.le_refl _) o)))
  obtain ⟨KN, hKN⟩ : ∃ KN, KN = k.len := ⟨_, rfl⟩
  rw [← hKN] at HS1 ⊢
  clear HC hT hKN HSt
  go_wp2_with fail
  refine Calls.mono (HS1.out _) ?_
  rintro e w2 ⟨hso, hb2⟩
  have hB2 : Below w.heap.size w w2 := (hb1.alloc hb1.size _).trans (hb2.mono (by have := hb1.size; simp; omega))
  clear HS1 hb2
  cases hCM : coll SV with
  | none =>
    rw [hCM] at hso
    obtain rfl : e = .returned (.tuple #[.slice none 0 0, .bool false]) := hso
    have hRn : R = none := by rw [HR.out]; exact coll_tgd_none hCM
    subst hRn
    clear hCM
    go_wp2_with fail
    exact bodyPost_ret (v := .tuple #[.slice none 0 0, .bool false]) (by simp [results, Try.results21, go_sem]) rfl ⟨_, rfl, OO.nil _ _, hB2⟩
  | some M =>
    rw [hCM] at hso
    obtain ⟨s2, rfl, hM2⟩ : ∃ s', e = .returned (.tuple #[s', .bool true]) ∧ KidT w2 _ (toF M) s' := hso
    obtain ⟨mad, mc, hmf⟩ := hM2.form
    rw [toF_len] at hmf
    subst hmf
    have hSe := coll_eq hCM
    have HR2 : Hid (R = coll (M.map fun p => tgd (some p))) := hide (by rw [HR.out, hSe, List.map_map]; rfl)
    have hlM : M.length ≤ 600 := by rw [← coll_len hCM] at hlen; exact hlen
    have HFm : Hid (∀ p ∈ M, p.2.flat.length + 1 ≤ 1200) := hide (fun p hp => HFl.out p (by rw [hSe]; exact List.mem_map_of_mem hp))
    have HM2 := hide hM2
    obtain ⟨ML, hML⟩ : ∃ ML, ML = M.length := ⟨_, rfl⟩
    rw [← hML] at HM2 hlM ⊢
    have HML := hide hML
    clear hM2 hML hSe hCM HR HFl hlen
    go_wp2_with fail
    go_loopw [8, 29] (fun v i w' => ∃ (A B : List (Cc × F)) (L : List (List Cc)) (vs : List Value), M = A ++ B ∧ i = .int .i64 (A.length : Int) ∧ coll (A.map fun p => tgd (some p)) = some L ∧ OOv w' w2.heap.size v L vs ∧ Below w2.heap.size w2 w') (fun _ i _ => ML - (intOf i).toNat)
    case atStart => exact ⟨[], M, [], [], rfl, rfl, rfl, ⟨World.ownsRow_nil _ _ _ _, fun j hj => by simp at hj, fun j x k hx => by simp at hx, fun i j x y k _ hx => by simp at hx⟩, Below.refl _ _⟩
    case round =>
      obtain ⟨A, B, L, vs, hM, rfl, hL, hoo, hBe⟩ := hrel
      have HL := hide hL
      have HOo := hide hoo
      have hsr := hBe.size
      obtain ⟨oa, oc, rfl⟩ := iOwn_form hoo.own
      have hLA : L.length = A.length := by have := coll_len hL; simpa using this
      clear hL hoo
      cases B with
      | nil =>
        rw [List.append_nil] at hM
        subst hM
        have hRn : R = some L := by rw [HR2.out]; exact HL.out
        subst hRn
        have hML := HML.out
        rw [← hML]
        obtain ⟨ON, hON⟩ : ∃ ON, ON = L.length := ⟨_, rfl⟩
        rw [← hON] at HOo ⊢
        clear hML hON hLA
        go_wp2_with fail
        exact bodyPost_ret (v := .tuple #[.slice oa ON oc, .bool true]) (by simp [results, Try.results21, go_sem]) rfl ⟨_, rfl, OO.lower ⟨vs, HOo.out⟩ hB2.size, hB2.trans (hBe.mono hB2.size)⟩
      | cons p B =>
        have hMl : M.length = A.length + (B.length + 1) := by rw [hM]; simp
        have hlt2 : (A.length : Int) < (ML : Int) := by have := HML.out; omega
        have hA0 : (0 : Int) ≤ (A.length : Int) := by omega
        have hMr := HM2.out.below hBe
        rw [hM, toF_app] at hMr
        obtain ⟨gm, cpm, sz, hem, hPm, hgm, hTz, p0, p1, p2⟩ := KidT.kid (a := toF A) (k := p.2) (r := toF B) (x := p.1) hMr
        simp only [Value.slice.injEq] at hem
        obtain ⟨rfl, -, rfl⟩ := hem
        rw [toF_len] at p0 p1 p2
        obtain ⟨zad, zc, rfl⟩ := hTz.form
        have HTe := hide (fun o : Obj => l3Tell_any p.1 p.2 (.slice zad p.2.len zc) _ (wr.alloc o) (by have := HFm.out p (by rw [hM]; simp); omega) (hTz.below ((Below.refl _ _).alloc (Nat.le_refl _) o)))
        have HMs : Hid (M = (A ++ [p]) ++ B) := hide (by rw [hM]; simp)
        have HRn : Hid (tgd (some p) = none → R = none) := hide (fun hv => by
          rw [HR2.out, hM, List.map_append, List.map_cons, coll_app, HL.out]
          simp only [coll, hv]
          rfl)
        have HLs : Hid (∀ m, tgd (some p) = some m → coll ((A ++ [p]).map fun p => tgd (some p)) = some (L ++ [m])) := hide (fun m hv => by rw [List.map_append, List.map_singleton, coll_snoc, HL.out, hv])
        have hAM : A.length ≤ 600 := by have := HML.out; omega
        obtain ⟨AN, hAN⟩ : ∃ AN, AN = A.length := ⟨_, rfl⟩
        obtain ⟨PN, hPN⟩ : ∃ PN, PN = p.2.len := ⟨_, rfl⟩
        obtain ⟨ON, hON⟩ : ∃ ON, ON = L.length := ⟨_, rfl⟩
        rw [← hAN] at hlt2 hA0 hLA hAM p0 p1 p2 ⊢
        rw [← hPN] at HTe p2
        have hON6 : ON ≤ 600 := by omega
        rw [← hON] at HOo ⊢
        have HON := hide hON
        have HAN := hide hAN
        clear hM hMr hTz hAN hPN hON hMl hLA
        go_wp2_with fail
        refine Calls.mono (HTe.out _) ?_
        rintro e w4 ⟨s4, rfl, hs4, hb4⟩
        have hsa : wr.heap.size + 1 ≤ w4.heap.size := by have := hb4.size; simpa using this
        have hb4' : Below wr.heap.size wr w4 := ((Below.refl _ wr).alloc (Nat.le_refl _) _).trans (hb4.mono (by simp))
        have hB4 : Below w2.heap.size w2 w4 := hBe.trans (hb4'.mono hsr)
        clear p0 p1 p2 HTe
        cases hgd : goodT (p.1 :: p.2.flat) with
        | false =>
          have hRn := HRn.out (by unfold tgd; simp only; rw [if_neg (by rw [hgd]; simp)])
          subst hRn
          obtain ⟨fa, fc, rfl⟩ := iOwn_form hs4
          clear hgd hs4 HRn HLs
          go_wp2_with fail
          exact bodyPost_ret (v := .tuple #[.slice none 0 0, .bool false]) (by simp [results, Try.results21, go_sem]) rfl ⟨_, rfl, OO.nil _ _, hB2.trans (hB4.mono hB2.size)⟩
        | true =>
          have hLn := HLs.out (p.1 :: p.2.flat) (by unfold tgd; simp only; rw [if_pos hgd])
          have hgde : gd (p.1 :: p.2.flat) = p.1 :: p.2.flat := by unfold gd; rw [if_pos hgd]
          rw [hgde] at hs4
          have HS4 : Hid (w4.ownsRow wr.heap.size 70 2 s4 (p.1 :: p.2.flat).length (cv (p.1 :: p.2.flat))) := hide (iOwn_lower hs4 (by simp))
          have HLn := hide hLn
          obtain ⟨fa, fc, rfl⟩ := iOwn_form hs4
          obtain ⟨FN, hFN⟩ : ∃ FN, FN = (p.1 :: p.2.flat).length := ⟨_, rfl⟩
          rw [← hFN] at HS4 ⊢
          have HFN := hide hFN
          have HR4 := hide (tOwn_keep HOo.out.own (fun k _ hk => hb4'.block k hk))
          clear hgd hs4 HRn HLs hLn hgde hFN
          go_wp2_with (at_builtin; refine wpList_append_sep rfl _ _ 40 rfl w2.heap.size 23 i0 (.slice none 0 0) 1 24 Try.underlying40 Hi.out hz0 hz1 hz2 rfl (by decide) _ ON _ rfl ((show w4.ownsRow w2.heap.size 23 1 (.slice oa ON oc) ON vs from by have h := HR4.out; rw [← HON.out] at h; exact h).alloc _) ⟨w4.heap.size, 0, none⟩ 1 1 [.slice fa FN fc] rfl rfl ?c1 ?c2 ?c3 ?c4 ?c5 ?_)
          case c1 => exact cell_one_new _ _ _
          case c2 => simp [Value.oneCell']
          case c3 => unfold maxLen; omega
          case c4 => omega
          case c5 => simp; omega
          intro v' w6 hown6 hgr6 hap6
          have hba : Below wr.heap.size wr (w4.alloc (.cells #[.slice fa FN fc] 23)) := hb4'.alloc (by omega) _
          have hx6 : (w4.alloc (.cells #[.slice fa FN fc] 23)).ownsRow wr.heap.size 70 2 (.slice fa FN fc) (p.1 :: p.2.flat).length (cv (p.1 :: p.2.flat)) := (show w4.ownsRow wr.heap.size 70 2 (.slice fa FN fc) (p.1 :: p.2.flat).length (cv (p.1 :: p.2.flat)) from by have h := HS4.out; rw [HFN.out] at h ⊢; exact h).alloc _
          obtain ⟨vs', hoo'⟩ := HOo.out.snoc (by omega) hba hx6 (by rw [← HON.out]; exact hown6) hgr6
          have hB6 : Below w2.heap.size w2 w6 := (hB4.alloc hB4.size _).grown hgr6 (by have := hB4.size; simp; omega) (fun q hq => (HOo.out.own.lt q hq).1)
          obtain ⟨va, vc, rfl⟩ := iOwn_form hown6
          have HO6 := hide hoo'
          clear hown6 hgr6 hap6 hoo' hx6 HS4 HR4
          go_wp2_with fail
          have hA := HAN.out
          exact ⟨⟨A ++ [p], B, L ++ [p.1 :: p.2.flat], vs', HMs.out, by rw [List.length_append, List.length_singleton, ← hA]; go_num, HLn.out, HO6.out, hB6⟩, by simp [intOf]; omega⟩

theorem specSteps_any (ad : Option Addr) (c : Nat) (l : List Cc) (w : World) (hl : l.length ≤ 1048576) (h : CRow w ad l) :
    Calls Try.prog 21 #[.slice ad l.length c] w fun e w' => RT w (stR l) e w' := by
  cases ht : treeT l with
  | none =>
    have hr : stR l = none := by unfold stR; rw [ht]
    rw [hr]
    exact specSteps_bad ad c l w hl ht h
  | some t =>
    obtain ⟨x, k, rfl⟩ := F.len_1 (treeT_flat ht).2.2.1
    exact specSteps_good ad c l x k w hl ht h
end Go.Proofs.Ytbimfnnbfbfdoaa.W

/-
  Askings at the beginning: impl.askingAll. Conditions: at most 1000 rules, each a pattern's cells.
-/
import Derived.Test.YtmlpnmdckgppnaaCrJ
namespace Go.Proofs.Ytmlpnmdckgppnaa.W
open Go.ChangeShapes Go.WideShapes Go.ChangeAt Go.RowKit
set_option linter.unusedVariables false
set_option linter.unusedSimpArgs false

/-- A pattern's cells. -/
def pcells (a : Pt × F) : List Pt := a.1 :: a.2.flat
/-- What a rule asks at the beginning. -/
def begQ (i : Nat) (a : Pt × F) : Aq := ⟨(i : Int), if a.1.kd = 1 then [] else [⟨[], a.1, a.2⟩]⟩
def begL : Nat → List (Pt × F) → List Aq
  | _, [] => []
  | i, a :: r => begQ i a :: begL (i + 1) r
theorem begL_app : ∀ (i : Nat) (a b : List (Pt × F)), begL i (a ++ b) = begL i a ++ begL (i + a.length) b
  | i, [], b => by simp [begL]
  | i, x :: a, b => by
    simp only [List.cons_append, begL, begL_app (i + 1) a b, List.length_cons]
    rw [show i + 1 + a.length = i + (a.length + 1) by omega]
theorem begL_take {ps : List (Pt × F)} {j : Nat} (h : j < ps.length) : begL 0 (ps.take (j + 1)) = begL 0 (ps.take j) ++ [begQ j ps[j]] := by
  rw [List.take_add_one, List.getElem?_eq_getElem h, Option.toList_some, begL_app]
  simp [begL, Nat.min_eq_left (Nat.le_of_lt h)]
theorem begL_len : ∀ (i : Nat) (l : List (Pt × F)), (begL i l).length = l.length
  | _, [] => rfl
  | i, a :: l => by simp [begL, begL_len (i + 1) l]

theorem beginAsk_any (O : Nat → Prop) (b o N c : Nat) (x : Pt) (k : F) (w : World) (hO : ¬ O b) (hOl : ∀ k, O k → k < w.heap.size) (hl : RAt 2 Pt.c w b o (x :: k.flat)) (hN : N = k.flat.length + 1) (hc : N ≤ c) (hs : N ≤ 1048576) :
    Calls Try.prog 40 #[.slice none 0 0, .slice none 0 0, .slice (some ⟨b, o, none⟩) N c] w fun e w' => ∃ av, e = .returned av ∧ AkS O w' av (if x.kd = 1 then [] else [⟨[], x, k⟩]) ∧ Below w.heap.size w w' := by
  refine Calls.mono (withAsk_any w.heap.size (.slice none 0 0) none 0 0 0 [] b o N c x k.flat w (World.ownsRow_nil _ _ _ _) hl hN (by omega) (Nat.le_refl _)) ?_
  rintro e w' ⟨h1, h2⟩
  by_cases hk : x.kd = 1
  · obtain ⟨rfl, rfl⟩ := h1 hk
    exact ⟨_, rfl, by rw [if_pos hk]; exact ⟨[], RowX.nil _ _ _, AVs.nil _ _⟩, Below.refl _ _⟩
  · obtain ⟨v', rfl, hO5, hg5, -⟩ := h2 hk
    have hb : Below w.heap.size w w' := (Below.refl _ _).grown hg5 (Nat.le_refl _) (fun k h => by simp [Value.ownBlock] at h)
    have hsz := hb.size
    refine ⟨_, rfl, ?_, hb⟩
    rw [if_neg hk]
    have hst : St O w' (AkE ⟨[], x, k⟩ (.slice none 0 0) (.slice (some ⟨b, o, none⟩) N c)) := by
      have e1 := St.iv (O := O) (w := w') (v := .slice none 0 0) (l := []) ⟨none, 0, rfl, .inl rfl, by simp⟩ (fun k h => by simp [Value.ownBlock] at h)
      have e2 := St.pv (O := O) (w := w') (v := .slice (some ⟨b, o, none⟩) N c) (l := x :: k.flat) ⟨some ⟨b, o, none⟩, c, by simp [hN], .inr ⟨b, o, rfl, hl.below hb⟩, by simp; omega⟩ (fun k h => by
        simp only [Value.ownBlock, Option.some.injEq] at h
        subst h; exact hO)
      exact fun w'' h => ⟨e1 w'' h, e2 w'' h, ⟨_, _, _, rfl, Nat.le_refl _, fun _ => ⟨rfl, rfl⟩⟩⟩
    refine ⟨_, RowX.ofOwn hO5 (fun g hg ho => ?_), (AVs.nil O w').snoc hst⟩
    have h3 := own_ge hO5 g hg
    have h4 := hOl g ho
    omega

set_option maxRecDepth 20000 in
set_option maxHeartbeats 8000000 in
theorem askingAll_any (ra : Option Addr) (rc : Nat) (ps : List (Pt × F)) (w : World) (hq : QRow w ra (ps.map pcells)) (hsm : QSm (ps.map pcells)) (hn : ps.length ≤ 1000) :
    Calls Try.prog 26 #[.slice ra ps.length rc] w fun e w' => ∃ v' xs, e = .returned v' ∧ w'.ownsRow w.heap.size 85 2 v' ps.length xs ∧ QVs (fun _ => False) w' xs (begL 0 ps) ∧ Below w.heap.size w w' := by
  obtain ⟨i0, hi0, hz0, hz1, hz2⟩ := infoPartsT infoAsking
  have Hi := hide hi0
  have HQ := hide hq
  have HSm := hide hsm.2
  obtain ⟨nl, hnl⟩ : ∃ nl, nl = ps.length := ⟨_, rfl⟩
  have Hnl := hide hnl
  rw [← hnl] at hn ⊢
  clear hi0 hq hsm hnl
  go_enter Try.func26, Try.ntmps26
  go_wp2_with fail
  go_loopw [3, 8] (fun v3 i w' => ∃ (j : Nat) (xs : List Value), j ≤ nl ∧ i = .int .i64 j ∧ w'.ownsRow w.heap.size 85 2 v3 j xs ∧ QVs (ObO (fun _ => False) v3) w' xs (begL 0 (ps.take j)) ∧ Below w.heap.size w w') (fun _ i _ => nl - (intOf i).toNat)
  case atStart => exact ⟨0, [], by omega, rfl, World.ownsRow_nil _ _ _ _, QVs.nil _ _, Below.refl _ _⟩
  case round =>
    obtain ⟨j, xs, hj, rfl, hO, hV, hB⟩ := hrel
    have Hlt := hide hO.lt
    have HO := hide hO
    have HV := hide hV
    have HB := hide hB
    obtain ⟨a9, c9, e9⟩ := own_form hO
    subst e9
    have hsB := hB.size
    clear hO hV hB
    by_cases hlt : j < nl
    · have hlt' : (j : Int) < (nl : Int) := by omega
      have hjl : j < ps.length := by rw [← Hnl.out]; exact hlt
      obtain ⟨b, o, v, rfl, hb, p0, pv⟩ := QRow.at HQ.out (Below.refl _ _) (i := j) (by simpa using hjl)
      replace p0 := (HB.out.cell (p := ⟨b, o + j, none⟩) hb).trans p0
      have hs6 := HSm.out _ (List.getElem_mem (by simpa using hjl : j < (ps.map pcells).length))
      rw [List.getElem_map] at pv hs6
      have HTk := hide (begL_take hjl)
      obtain ⟨a, ha⟩ : ∃ a, a = ps[j] := ⟨_, rfl⟩
      rw [← ha] at pv hs6 HTk
      clear ha
      obtain ⟨x, k⟩ := a
      obtain ⟨pa, pc, rfl, hpr, hpc⟩ := pv
      simp only [pcells] at hpr hpc hs6 p0
      obtain ⟨cb, co, rfl, hcx⟩ : ∃ cb co, pa = some ⟨cb, co, none⟩ ∧ RAt 2 Pt.c w cb co (x :: k.flat) := by
        rcases hpr with h | ⟨cb, co, h, hh⟩
        · simp at h
        · exact ⟨cb, co, h, hh⟩
      have hbne : ¬ ObO (fun _ => False) (.slice a9 j c9) cb := by
        rintro (hg | hg)
        · exact hg
        · have h1 := (Hlt.out cb hg).1
          have h2 := hcx.1
          omega
      replace hcx := RAt.below hcx HB.out
      obtain ⟨N, hN⟩ : ∃ N, N = (x :: k.flat).length := ⟨_, rfl⟩
      rw [← hN] at hpc hs6 p0
      have HC := hide (beginAsk_any (ObO (fun _ => False) (.slice a9 j c9)) cb co N pc x k wr hbne (fun g hg => by
        rcases hg with hg | hg
        · exact hg.elim
        · exact (Hlt.out g hg).2) hcx (by rw [hN]; simp) hpc hs6)
      clear hN hcx hpr hbne hjl
      go_wp2_with fail
      refine Calls.mono HC.out ?_
      clear HC p0
      rintro e w6 ⟨av, rfl, hAk, hb6⟩
      obtain ⟨a', c', rfl, hc'⟩ := hAk.form
      obtain ⟨n', hn'⟩ : ∃ n', n' = (if x.kd = 1 then [] else [(⟨[], x, k⟩ : Ak)]).length := ⟨_, rfl⟩
      rw [← hn'] at hAk hc' ⊢
      have HAk := hide hAk
      have HB6 := hide (HB.out.trans (hb6.mono hsB))
      have HO6 := hide (own_keep HO.out (w' := w6) (fun k _ hk => hb6.block k hk))
      have HV6 := hide (HV.out.below hb6)
      have hs6' := hb6.size
      clear HO HV hb6 hAk hn' HB
      go_wp2_with (at_builtin; refine wpList_append_sep rfl _ _ 61 rfl w.heap.size 85 i0 (.agg #[.int .i64 0, .slice none 0 0]) 2 32 Try.underlying61 Hi.out hz0 hz1 hz2 rfl (by decide) _ _ _ rfl (HO6.out.alloc _) ⟨w6.heap.size, 0, none⟩ 1 1 [.int .i64 (j : Int), .slice a' n' c'] rfl rfl ?c1 ?c2 ?c3 ?c4 ?c5 ?_)
      case c1 => exact twoC_cells (heap_alloc_new w6 _)
      case c2 => intro u hu; simp only [List.mem_cons, List.not_mem_nil, or_false] at hu; rcases hu with rfl | rfl <;> rfl
      case c3 => unfold maxLen; omega
      case c4 => omega
      case c5 => simp; omega
      intro v10 w9 hown9 hgrow hap
      have hb66 : Below w6.heap.size w6 (w6.alloc (.cells #[.int .i64 (j : Int), .slice a' n' c'] 85)) := (Below.refl _ _).alloc (Nat.le_refl _) _
      obtain ⟨W7, hW7⟩ : ∃ W7, W7 = w6.alloc (.cells #[.int .i64 (j : Int), .slice a' n' c'] 85) := ⟨_, rfl⟩
      rw [← hW7] at hgrow hap hb66
      clear hW7
      have hs67 := hb66.size
      have hof : Off (ObO (fun _ => False) (.slice a9 j c9)) w6 w9 := (Off.of_below hb66).trans (Off.of_grown hgrow (fun k h => .inr h)) (fun i hi => .inl hi)
      have hbg : Below w.heap.size W7 w9 := (Below.refl _ _).grown hgrow (by omega) (fun k h => (Hlt.out k h).1)
      have hb69 : Below w.heap.size w6 w9 := (hb66.mono (by omega)).trans hbg
      have HQ9 := hide ((HV6.out.snoc (a := begQ j (x, k)) HAk.out).later hof (O' := ObO (fun _ => False) v10) (fun i h => by
        rcases h with h | h
        · exact h.elim
        · rcases hap i h with h | h
          · exact .inl (.inr h)
          · exact .inr (by omega)))
      have HB9 := hide (HB6.out.trans hb69)
      have HO9 := hide hown9
      clear hof hbg hb69 hb66 hap hgrow hown9
      obtain ⟨a10, c10, e10⟩ := own_form HO9.out
      subst e10
      go_wp2_with fail
      exact ⟨⟨j + 1, _, by omega, by go_num, HO9.out, by rw [HTk.out]; exact HQ9.out, HB9.out⟩, by simp [intOf]; omega⟩
    · have hjn : j = nl := by omega
      subst hjn
      have HTe : Hid (ps.take j = ps) := hide (by rw [Hnl.out, List.take_length])
      go_wp2_with fail
      go_ret
      refine ⟨_, xs, rfl, HO.out, ?_, HB.out⟩
      have h1 := HV.out
      rw [HTe.out] at h1
      exact h1.mono (fun k hk => hk.elim)
end Go.Proofs.Ytmlpnmdckgppnaa.W

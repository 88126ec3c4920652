/-
  The rules that stay once a constructor is seen: (impl.Data).answeredAll. Conditions: good data, askings of at most 1000 cells in all.
-/
import Derived.Test.YtmlpnmdckgppnaaCrI
namespace Go.Proofs.Ytmlpnmdckgppnaa.W
open Go.ChangeShapes Go.WideShapes Go.ChangeAt Go.RowKit
set_option linter.unusedVariables false
set_option linter.unusedSimpArgs false

theorem infoAsking : (Try.prog.info? 85).map (fun i => (i.zero, i.size, i.bytes)) = some (some (.agg #[.int .i64 0, .slice none 0 0]), 2, 32) := by kernel_rfl
/-- These blocks, and a row's own. -/
def ObO (O : Nat → Prop) (v : Value) : Nat → Prop := fun g => O g ∨ v.ownBlock = some g
theorem AkS.mono {O O' : Nat → Prop} {w : World} {v : Value} {q : List Ak} (h : AkS O w v q) (hO : ∀ i, O' i → O i) : AkS O' w v q := h.later (Off.refl _ _) (fun i hi => .inl (hO i hi))
theorem QVs.mono {O O' : Nat → Prop} {w : World} {xs : List Value} {l : List Aq} (h : QVs O w xs l) (hO : ∀ i, O' i → O i) : QVs O' w xs l := h.later (Off.refl _ _) (fun i hi => .inl (hO i hi))
theorem ansAll_app (p : List Int) (c : Int) : ∀ (a b : List Aq), ansAll p c (a ++ b) = ansAll p c a ++ ansAll p c b
  | [], b => rfl
  | r :: a, b => by
    have ih := ansAll_app p c a b
    simp only [List.cons_append, ansAll]
    split <;> simp [ih]
theorem ansAll_take {p : List Int} {c : Int} {l : List Aq} {j : Nat} (h : j < l.length) : ansAll p c (l.take (j + 1)) = ansAll p c (l.take j) ++ match ansF p c [] l[j].q with
    | some q => [⟨l[j].rule, q⟩]
    | none => [] := by
  rw [List.take_add_one, List.getElem?_eq_getElem h, Option.toList_some, ansAll_app]
  congr 1
theorem lsz_mem {l : List Aq} {r : Aq} (h : r ∈ l) : qsz r.q ≤ lsz l := by
  induction l with
  | nil => cases h
  | cons a l ih =>
    have h0 : lsz (a :: l) = qsz a.q + lsz l := by simp [lsz]
    rcases List.mem_cons.1 h with e | h
    · subst e; omega
    · have := ih h; omega
theorem ansAll_okD {D : List Int} {p : List Int} {c : Int} : ∀ {l : List Aq}, (∀ r ∈ l, QokD D r.q) → ∀ r ∈ ansAll p c l, QokD D r.q
  | [], _, r, hr => by cases hr
  | a :: l, h, r, hr => by
    have ih := ansAll_okD (p := p) (c := c) (l := l) (fun s hs => h s (List.mem_cons_of_mem a hs))
    unfold ansAll at hr
    cases e : ansF p c [] a.q with
    | none => rw [e] at hr; exact ih r hr
    | some q =>
      rw [e] at hr
      rcases List.mem_cons.1 hr with e2 | hr
      · subst e2; exact ansF_okD (h a (by simp)) e
      · exact ih r hr
theorem ansAll_few (p : List Int) (c : Int) : ∀ l : List Aq, (ansAll p c l).length ≤ l.length
  | [] => by simp [ansAll]
  | a :: l => by
    have := ansAll_few p c l
    unfold ansAll
    split <;> simp <;> omega

set_option maxRecDepth 20000 in
set_option maxHeartbeats 8000000 in
theorem answeredAll_any (O : Nat → Prop) (vd : Value) (D : List Int) (vl : Value) (l : List Aq) (ta : Option Addr) (tc : Nat) (t : List Int) (c : Int) (w : World) (hD : DRow w vd D) (hd : goodD D = true) (hO : ∀ k, O k → k < w.heap.size)
    (hl : AqS O w vl l) (hL : lsz l ≤ 1000) (hn : l.length ≤ 1000) (hok : ∀ r ∈ l, QokD D r.q) (ht : IRow w ta t) :
    Calls Try.prog 47 #[vd, vl, .slice ta t.length tc, .int .i64 c] w fun e w' => ∃ v' xs, e = .returned v' ∧ w'.ownsRow (w.heap.size + 1) 85 2 v' (ansAll t c l).length xs ∧ QVs O w' xs (ansAll t c l) ∧ Below w.heap.size w w' := by
  obtain ⟨i0, hi0, hz0, hz1, hz2⟩ := infoPartsT infoAsking
  have Hi := hide hi0
  obtain ⟨da, dc, rfl, -, hDl⟩ := id hD
  obtain ⟨la, lc, rfl, hlc⟩ := hl.form
  have HD := hide hD
  have Hd := hide hd
  have HOs := hide hO
  have HOk := hide hok
  have HT := hide ht
  have HLs := hide hL
  have HAq : Hid (∀ (v : Value) (W : World), (∀ k, v.ownBlock = some k → w.heap.size ≤ k) → Below w.heap.size w W → AqS (ObO O v) W (.slice la l.length lc) l) := hide (fun v W hv hb => hl.later (Off.of_below hb) (fun k hk => by
    rcases hk with hk | hk
    · exact .inl hk
    · exact .inr (hv k hk)))
  have hB0 : Below w.heap.size w (w.alloc (.cells #[.slice da D.length dc] 31)) := (Below.refl _ _).alloc (Nat.le_refl _) _
  have HX0 := hide (Bx.new w #[.slice da D.length dc] 31)
  have HAt : Hid (∀ (v : Value) (W : World), (∀ k, v.ownBlock = some k → w.heap.size ≤ k) → Below w.heap.size w W → ∀ (ad : Option Addr) (cc : Nat), la = ad → ∀ j (h : j < l.length), ∃ b o av, ad = some ⟨b, o, none⟩ ∧ b < W.heap.size ∧ W.cell? ⟨b, o + j * 2, none⟩ = some (.int .i64 l[j].rule) ∧ W.cell? ⟨b, o + j * 2 + 1, none⟩ = some av ∧ AkS (ObO O v) W av l[j].q) := hide (fun v W hv hb ad cc e j h => by
    subst e
    exact (HAq.out v W hv hb).at h)
  obtain ⟨nl, hnl⟩ : ∃ nl, nl = l.length := ⟨_, rfl⟩
  have Hnl := hide hnl
  rw [← hnl] at hlc hn ⊢
  obtain ⟨nt, hnt⟩ : ∃ nt, nt = t.length := ⟨_, rfl⟩
  have Hnt := hide hnt
  rw [← hnt]
  clear hD hd hO hl hok ht hi0 hnl hnt HAq hL
  go_enter Try.func47, Try.ntmps47
  go_upto_region 1 with fail
  obtain ⟨W0, hW0⟩ : ∃ W0, W0 = w.alloc (.cells #[.slice da D.length dc] 31) := ⟨_, rfl⟩
  have hs0 : w.heap.size + 1 ≤ W0.heap.size := by rw [hW0]; simp
  rw [← hW0] at hB0 HX0 ⊢
  clear hW0
  obtain ⟨B4, hB4⟩ : ∃ B4, B4 = w.heap.size := ⟨_, rfl⟩
  have HB4 := hide hB4
  rw [← hB4] at HX0 ⊢
  clear hB4
  go_wp2_with fail
  go_loopw [9, 16] (fun v9 i w' => ∃ (j : Nat) (xs : List Value), j ≤ nl ∧ i = .int .i64 j ∧ w'.ownsRow (w.heap.size + 1) 85 2 v9 (ansAll t c (l.take j)).length xs ∧ QVs (ObO O v9) w' xs (ansAll t c (l.take j)) ∧ Bx w' B4 #[.slice da D.length dc] 31 ∧ w.heap.size + 1 ≤ w'.heap.size ∧ Below w.heap.size w w') (fun _ i _ => nl - (intOf i).toNat)
  case atStart => exact ⟨0, [], by omega, rfl, World.ownsRow_nil _ _ _ _, QVs.nil _ _, HX0.out, hs0, hB0⟩
  case round =>
    clear HX0 hB0 hs0
    obtain ⟨j, xs, hj, rfl, hO, hV, hX, hs, hB⟩ := hrel
    have Hge := hide (own_ge hO)
    have Hlt := hide hO.lt
    have HOw := hide hO
    have HV := hide hV
    have HX := hide hX
    have HB := hide hB
    obtain ⟨a9, c9, e9⟩ := own_form hO
    obtain ⟨n9, hn9⟩ : ∃ n9, n9 = (ansAll t c (l.take j)).length := ⟨_, rfl⟩
    have hn9l : n9 ≤ 1000 := by rw [hn9]; have := ansAll_few t c (l.take j); simp at this; omega
    rw [← hn9] at e9 HOw
    subst e9
    have Hn9 := hide hn9
    clear hO hV hX hB hn9
    by_cases hlt : j < nl
    · have hlt' : (j : Int) < (nl : Int) := by omega
      have hjl : j < l.length := by rw [← Hnl.out]; exact hlt
      obtain ⟨b, o, av, rfl, hbl, p0, p1, hAk⟩ := HAt.out (.slice a9 n9 c9) wr (fun k hk => by have := Hge.out k hk; omega) HB.out la lc rfl j hjl
      have HTk := hide (ansAll_take (p := t) (c := c) hjl)
      obtain ⟨rl, hrl⟩ : ∃ rl, rl = l[j].rule := ⟨_, rfl⟩
      have hqm := HOk.out l[j] (List.getElem_mem hjl)
      have hqz := lsz_mem (List.getElem_mem hjl)
      obtain ⟨q, hq⟩ : ∃ q, q = l[j].q := ⟨_, rfl⟩
      rw [← hrl] at p0 HTk
      rw [← hq] at hAk HTk hqm hqz
      obtain ⟨va, vc, rfl, hvc⟩ := hAk.form
      have HAk := hide hAk
      have Hqm := hide hqm
      have hq1000 : qsz q ≤ 1000 := by have := HLs.out; omega
      obtain ⟨nq, hnq⟩ : ∃ nq, nq = q.length := ⟨_, rfl⟩
      rw [← hnq] at p1 HAk hvc
      clear hAk hrl hq hqm hqz hnq
      go_upto_region 5 with fail
      clear p0 p1
      have hbA : Below wr.heap.size wr (wr.alloc (.cells #[.int .i64 rl, .slice va nq vc] 85)) := (Below.refl _ _).alloc (Nat.le_refl _) _
      have HXA := hide (HX.out.alloc (.cells #[.int .i64 rl, .slice va nq vc] 85))
      have HXB := hide (Bx.new wr #[.int .i64 rl, .slice va nq vc] 85)
      obtain ⟨W5, hW5⟩ : ∃ W5, W5 = wr.alloc (.cells #[.int .i64 rl, .slice va nq vc] 85) := ⟨_, rfl⟩
      have hs5 : W5.heap.size = wr.heap.size + 1 := by rw [hW5]; simp
      rw [← hW5] at hbA HXA HXB ⊢
      obtain ⟨B8, hB8⟩ : ∃ B8, B8 = wr.heap.size := ⟨_, rfl⟩
      have hs5' : B8 < W5.heap.size := by omega
      have hs5b : wr.heap.size ≤ B8 := by omega
      rw [← hB8] at HXB ⊢
      clear hW5 hB8
      have cx := HXA.out.c 0
      have cy := HXB.out.c 1
      have hB5 : Below w.heap.size w W5 := HB.out.trans (hbA.mono HB.out.size)
      have HC := hide (answered_any (ObO O (.slice a9 n9 c9)) (.agg #[.slice da D.length dc]) D (.slice va nq vc) q ta tc t c W5 (HD.out.below hB5) Hd.out (fun k hk => by
        rcases hk with hk | hk
        · have := HOs.out k hk; have := hB5.size; omega
        · have := (Hlt.out k hk).2; omega) (HAk.out.below hbA) hq1000 Hqm.out (RRow.below HT.out hB5))
      rw [← Hnt.out] at HC
      obtain ⟨R, hR⟩ : ∃ R, R = ansF t c [] q := ⟨_, rfl⟩
      rw [← hR] at HC HTk
      clear hR
      have Hs5 := hide hs5
      clear hs5
      go_wp2_with fail
      refine Calls.mono HC.out ?_
      clear HC cx cy
      rintro e w6 ⟨hb6, hP⟩
      have hb56 : Below wr.heap.size wr w6 := hbA.trans (hb6.mono hbA.size)
      have HB6 := hide (HB.out.trans (hb56.mono HB.out.size))
      have HXA6 := hide (HXA.out.below hb6 HXA.out.lt)
      have HXB6 := hide (HXB.out.below hb6 hs5')
      have HO6 := hide (own_keep HOw.out (w' := w6) (fun k _ hk => hb56.block k hk))
      have HV6 := hide (HV.out.below hb56)
      have hs6 := hb6.size
      have hs56 := hb56.size
      clear HXA HXB HOw HV hb6 hbA hB5
      cases R with
      | none =>
        have he : e = .returned (.tuple #[.slice none 0 0, .bool false]) := hP
        subst he
        have HTn : Hid (ansAll t c (l.take (j + 1)) = ansAll t c (l.take j)) := hide (by have := HTk.out; simpa using this)
        clear hP HTk
        go_wp2_with fail
        exact ⟨⟨j + 1, xs, by omega, by go_num, by rw [HTn.out, ← Hn9.out]; exact HO6.out, by rw [HTn.out]; exact HV6.out, HXA6.out, by omega, HB6.out⟩, by simp [intOf]; omega⟩
      | some q' =>
        obtain ⟨v', he, hAk'⟩ : ∃ v', e = .returned (.tuple #[v', .bool true]) ∧ AkS (ObO O (.slice a9 n9 c9)) w6 v' q' := hP
        subst he
        obtain ⟨a', c', rfl, hc'⟩ := hAk'.form
        have HAk' := hide hAk'
        obtain ⟨n', hn'⟩ : ∃ n', n' = q'.length := ⟨_, rfl⟩
        rw [← hn'] at HAk' hc' ⊢
        have HTn : Hid (ansAll t c (l.take (j + 1)) = ansAll t c (l.take j) ++ [⟨rl, q'⟩]) := hide (by have := HTk.out; simpa using this)
        have cz := HXB6.out.c 0
        clear hAk' hn' HTk
        go_wp2_with (at_builtin; refine wpList_append_sep rfl _ _ 61 rfl (w.heap.size + 1) 85 i0 (.agg #[.int .i64 0, .slice none 0 0]) 2 32 Try.underlying61 Hi.out hz0 hz1 hz2 rfl (by decide) _ _ _ rfl (HO6.out.alloc _) ⟨w6.heap.size, 0, none⟩ 1 1 [.int .i64 rl, .slice a' n' c'] rfl rfl ?c1 ?c2 ?c3 ?c4 ?c5 ?_)
        case c1 => exact twoC_cells (heap_alloc_new w6 _)
        case c2 => intro u hu; simp only [List.mem_cons, List.not_mem_nil, or_false] at hu; rcases hu with rfl | rfl <;> rfl
        case c3 => unfold maxLen; omega
        case c4 => omega
        case c5 => simp; omega
        intro v10 w9 hown9 hgrow hap
        have hb66 : Below w6.heap.size w6 (w6.alloc (.cells #[.int .i64 rl, .slice a' n' c'] 85)) := (Below.refl _ _).alloc (Nat.le_refl _) _
        obtain ⟨W7, hW7⟩ : ∃ W7, W7 = w6.alloc (.cells #[.int .i64 rl, .slice a' n' c'] 85) := ⟨_, rfl⟩
        rw [← hW7] at hgrow hap hb66
        clear hW7
        have hs67 := hb66.size
        have hof : Off (ObO O (.slice a9 n9 c9)) w6 w9 := (Off.of_below hb66).trans (Off.of_grown hgrow (fun k h => .inr h)) (fun i hi => .inl hi)
        have hbg : Below (w.heap.size + 1) W7 w9 := (Below.refl _ _).grown hgrow (by omega) (fun k h => (Hlt.out k h).1)
        have hb69 : Below (w.heap.size + 1) w6 w9 := (hb66.mono (by omega)).trans hbg
        have HQ9 := hide ((HV6.out.snoc (a := ⟨rl, q'⟩) HAk'.out).later hof (O' := ObO O v10) (fun i h => by
          rcases h with h | h
          · exact .inl (.inl h)
          · rcases hap i h with h | h
            · exact .inl (.inr h)
            · exact .inr (by omega)))
        have HX9 := hide (HXA6.out.below hb69 (by have := HB4.out; omega))
        have HB9 := hide (HB6.out.trans (hb69.mono (by omega)))
        have HO9 := hide hown9
        have hs69 := hb69.size
        clear hof hbg hb69 hb66 hap hgrow hown9
        obtain ⟨a10, c10, e10⟩ := own_form HO9.out
        subst e10
        go_wp2_with fail
        exact ⟨⟨j + 1, _, by omega, by go_num, by rw [HTn.out, List.length_append, ← Hn9.out]; exact HO9.out, by rw [HTn.out]; exact HQ9.out, HX9.out, by omega, HB9.out⟩, by simp [intOf]; omega⟩
    · have hjn : j = nl := by omega
      subst hjn
      have HTe : Hid (l.take j = l) := hide (by rw [Hnl.out, List.take_length])
      go_wp2_with fail
      go_ret
      refine ⟨_, xs, rfl, ?_, ?_, ?_⟩
      · have h1 := HOw.out
        have h2 := Hn9.out
        rw [HTe.out] at h2
        rw [← h2]; exact h1
      · have h1 := HV.out
        rw [HTe.out] at h1
        exact h1.mono (fun k hk => .inl hk)
      · exact HB.out
end Go.Proofs.Ytmlpnmdckgppnaa.W

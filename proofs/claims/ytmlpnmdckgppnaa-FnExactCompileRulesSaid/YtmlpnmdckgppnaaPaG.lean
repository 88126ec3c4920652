/-
  Good rules: contracts of both GoodRules, and of the specification's l8Rules: the rules as trees that lie in new memory. Conditions: at most 1048576 elements a row.
-/
import Derived.Test.YtmlpnmdckgppnaaPaR
import Derived.Test.YtmlpnmdckgppnaaQvL
namespace Go.Proofs.Ytmlpnmdckgppnaa.W
open Go.ChangeShapes Go.WideShapes Go.ChangeAt Go.RowKit
set_option linter.unusedVariables false
set_option linter.unusedSimpArgs false

/-- Patterns as trees, one behind the other. -/
def rulesF (D : List Int) : List (List Pt) → Option F
  | [] => some .nil
  | l :: L => match treeT D 40 l with
    | none => none
    | some a => (rulesF D L).map a.app
def ruT (D : List Int) (L : List (List Pt)) : Option F := if goodD D = true ∧ L.length ≤ 8 then rulesF D L else none
def goodR (D : List Int) (L : List (List Pt)) : Bool := (ruT D L).isSome
theorem rulesF_cons (D : List Int) (l : List Pt) (L : List (List Pt)) : (rulesF D (l :: L)).isSome = (goodT D 40 l && (rulesF D L).isSome) := by
  unfold goodT
  rw [rulesF]
  cases treeT D 40 l with
  | none => rfl
  | some a => simp
theorem rulesF_len {D : List Int} : ∀ {L : List (List Pt)} {a : F}, rulesF D L = some a → a.len = L.length ∧ a.ok D
  | [], a, h => by simp [rulesF] at h; subst h; exact ⟨rfl, trivial⟩
  | l :: L, a, h => by
    rw [rulesF] at h
    cases h1 : treeT D 40 l with
    | none => rw [h1] at h; simp at h
    | some b =>
      rw [h1] at h
      cases h2 : rulesF D L with
      | none => rw [h2] at h; simp at h
      | some r =>
        rw [h2] at h
        simp at h
        subst h
        obtain ⟨e1, e2⟩ := rulesF_len h2
        obtain ⟨-, f2, f3, -⟩ := treeT_flat h1
        exact ⟨by rw [F.app_len, f3, e1]; simp; omega, (F.app_ok D b r).2 ⟨f2, e2⟩⟩

set_option maxRecDepth 20000 in
set_option maxHeartbeats 4000000 in
theorem implGoodR_any (vd : Value) (D : List Int) (v : Value) (L : List (List Pt)) (w : World) (hD : DRow w vd D) (hv : QV w v L) :
    Calls Try.prog 24 #[vd, v] w fun e w' => e = .returned (.bool (goodR D L)) ∧ Below w.heap.size w w' := by
  obtain ⟨ad, c, rfl, hR, hs, hc⟩ := hv
  have HR := hide hR
  have HS := hide hs.2
  have hl := hs.1
  clear hR hs
  have HD := hide hD
  have HG := hide (fun (w' : World) (hb : Below w.heap.size w w') => implGoodD_any vd D w' (hD.below hb))
  obtain ⟨da, dc, rfl, -, hDl⟩ := hD
  have HB0 := hide (show Below w.heap.size w (w.alloc (.cells #[.slice da D.length dc] 31)) from (Below.refl _ _).alloc (Nat.le_refl _) _)
  have HX0 := hide (Bx.new w #[.slice da D.length dc] 31)
  obtain ⟨G, hG⟩ : ∃ G, G = goodR D L := ⟨_, rfl⟩
  rw [← hG]
  have HGR := hide hG
  clear hG
  go_enter Try.func24, Try.ntmps24
  go_wp2_with fail
  refine Calls.mono (HG.out _ HB0.out) ?_
  rintro e w1 ⟨rfl, hb1⟩
  have hB1 : Below w.heap.size w w1 := HB0.out.trans (hb1.mono HB0.out.size)
  have HX1 := hide (HX0.out.below hb1 HX0.out.lt)
  clear hb1 HB0 HX0 HG
  cases hd : goodD D with
  | false =>
    have e1 := hide (show G = false by rw [HGR.out, goodR, ruT, if_neg (by rw [hd]; simp)]; rfl)
    clear hd
    go_wp2_with fail
    go_ret
    exact ⟨ret_bool e1.out.symm, hB1⟩
  | true =>
    have Hd := hide hd
    by_cases h8 : L.length ≤ 8
    · have h8' : ¬ (8 : Int) < (L.length : Int) := by omega
      have e1 := hide (show G = (rulesF D L).isSome by rw [HGR.out, goodR, ruT, if_pos ⟨hd, h8⟩])
      clear hd HGR
      go_wp2_with fail
      go_loopw [17] (fun i w' => ∃ j : Nat, j ≤ L.length ∧ i = .int .i64 j ∧ G = (rulesF D (L.drop j)).isSome ∧ Bx w' w.heap.size #[.slice da D.length dc] 31 ∧ Below w.heap.size w w') (fun i _ => L.length - (intOf i).toNat)
      case atStart => exact ⟨0, by omega, rfl, e1.out, HX1.out, hB1⟩
      case round =>
        clear hB1 HX1 e1
        obtain ⟨j, hj, rfl, hG, hX, hB⟩ := hrel
        have HGj := hide hG
        have HX := hide hX
        clear hG hX
        by_cases hlt : j < L.length
        · have hlt' : (j : Int) < (L.length : Int) := by omega
          obtain ⟨b, o, v, rfl, hb, p0, pv⟩ := QRow.at HR.out hB hlt
          have hs6 := HS.out L[j] (List.getElem_mem hlt)
          have hG2 : G = (goodT D 40 L[j] && (rulesF D (L.drop (j + 1))).isSome) := by rw [HGj.out, List.drop_eq_getElem_cons hlt, rulesF_cons]
          obtain ⟨ad1, c1, rfl, pr, -⟩ := pv
          have HC := hide (fun (w' : World) (hb : Below wr.heap.size wr w') => isPattern_any (.agg #[.slice da D.length dc]) D ad1 c1 L[j] w' (HD.out.below (hB.trans (hb.mono hB.size))) Hd.out hs6 (RRow.below pr hb))
          rw [goodT_sz] at hG2
          obtain ⟨Sz, hSz⟩ : ∃ Sz, Sz = decide (sz D L[j] 1 0 = some L[j].length) := ⟨_, rfl⟩
          rw [← hSz] at HC hG2
          obtain ⟨N, hN⟩ : ∃ N, N = L[j].length := ⟨_, rfl⟩
          rw [← hN] at p0 HC hG2 hs6
          have HG2 := hide hG2
          have cx := HX.out.c
          have xl := HX.out.lt
          clear hSz hN hG2 pr HGj
          by_cases h40 : N ≤ 40
          · have h40' : ¬ (40 : Int) < (N : Int) := by omega
            go_wp2_with fail
            refine Calls.mono (HC.out _ (Below.refl _ _)) ?_
            rintro e w2 ⟨rfl, hb2⟩
            have hB2 : Below w.heap.size w w2 := hB.trans (hb2.mono hB.size)
            have HX2 := hide (HX.out.below hb2 xl)
            clear hb2 p0 cx
            cases Sz with
            | true =>
              have hG3 := hide (show G = (rulesF D (L.drop (j + 1))).isSome by rw [HG2.out, decide_eq_true h40]; rfl)
              clear HG2
              go_wp2_with fail
              exact ⟨⟨j + 1, by omega, by go_num, hG3.out, HX2.out, hB2⟩, by simp [intOf]; omega⟩
            | false =>
              have hG3 := hide (show G = false by rw [HG2.out]; simp)
              clear HG2
              go_wp2_with fail
              go_ret
              exact ⟨ret_bool hG3.out.symm, hB2⟩
          · have h40' : (40 : Int) < (N : Int) := by omega
            have hG3 := hide (show G = false by rw [HG2.out, decide_eq_false h40]; rfl)
            clear HG2
            go_wp2_with fail
            go_ret
            exact ⟨ret_bool hG3.out.symm, hB⟩
        · obtain rfl : j = L.length := by omega
          have hG3 := hide (show G = true by rw [HGj.out, List.drop_length]; rfl)
          clear HGj
          go_wp2_with fail
          go_ret
          exact ⟨ret_bool hG3.out.symm, hB⟩
    · have h8' : (8 : Int) < (L.length : Int) := by omega
      have e1 := hide (show G = false by rw [HGR.out, goodR, ruT, if_neg (by intro h; exact h8 h.2)]; rfl)
      clear hd
      go_wp2_with fail
      go_ret
      exact ⟨ret_bool e1.out.symm, hB1⟩

/-- What l8Rules tells. -/
def RuOut (w' : World) (lo : Nat) (e : Ending) : Option F → Prop
  | none => e = .returned (.tuple #[.slice none 0 0, .bool false])
  | some a => ∃ s, e = .returned (.tuple #[s, .bool true]) ∧ KidT w' (fun g => lo < g) a s

set_option maxRecDepth 20000 in
set_option maxHeartbeats 8000000 in
theorem l8Rules_any (vd : Value) (D : List Int) (v : Value) (L : List (List Pt)) (w : World) (hD : DRow w vd D) (hv : QV w v L) :
    Calls Try.prog 19 #[vd, v] w fun e w' => Below w.heap.size w w' ∧ RuOut w' w.heap.size e (ruT D L) := by
  obtain ⟨ad, c, rfl, hR, hs, hc⟩ := hv
  have HR := hide hR
  have HS := hide hs.2
  have hl := hs.1
  clear hR hs
  have HD := hide hD
  have HG := hide (fun (w' : World) (hb : Below w.heap.size w w') => specGoodD_any vd D w' (hD.below hb))
  obtain ⟨da, dc, rfl, -, hDl⟩ := hD
  have HB0 := hide (show Below w.heap.size w (w.alloc (.cells #[.slice da D.length dc] 31)) from (Below.refl _ _).alloc (Nat.le_refl _) _)
  have HX0 := hide (Bx.new w #[.slice da D.length dc] 31)
  obtain ⟨R, hR⟩ : ∃ R, R = ruT D L := ⟨_, rfl⟩
  rw [← hR]
  have HGR := hide hR
  clear hR
  obtain ⟨i0, hi0, hz0, hz1, hz2⟩ := infoPartsT infoT
  have Hi := hide hi0
  clear hi0
  go_enter Try.func19, Try.ntmps19
  go_wp2_with fail
  refine Calls.mono (HG.out _ HB0.out) ?_
  rintro e w1 ⟨rfl, hb1⟩
  have hB1 : Below w.heap.size w w1 := HB0.out.trans (hb1.mono HB0.out.size)
  have HX1 := hide (HX0.out.below hb1 HX0.out.lt)
  clear hb1 HB0 HX0 HG
  cases hd : goodD D with
  | false =>
    have e1 : R = none := by rw [HGR.out, ruT, if_neg (by rw [hd]; simp)]
    subst e1
    clear hd HGR
    go_wp2_with fail
    exact bodyPost_ret (v := .tuple #[.slice none 0 0, .bool false]) (by simp [results, Try.results19, go_sem]) rfl ⟨hB1, rfl⟩
  | true =>
    have Hd := hide hd
    by_cases h8 : L.length ≤ 8
    · have h8' : ¬ (8 : Int) < (L.length : Int) := by omega
      have e1 := hide (show R = rulesF D L by rw [HGR.out, ruT, if_pos ⟨hd, h8⟩])
      clear hd HGR
      go_wp2_with fail
      go_loopw [6, 21] (fun s i w' => ∃ (done : F) (cs : List Value), done.len ≤ L.length ∧ i = .int .i64 (done.len : Int) ∧ R = (rulesF D (L.drop done.len)).map done.app ∧ Bx w' w.heap.size #[.slice da D.length dc] 31 ∧ Below w.heap.size w w' ∧
        KidsAt w' (fun g => w.heap.size < g ∧ s.ownBlock ≠ some g) done cs ∧ w'.ownsRow (w.heap.size + 1) 50 2 s done.len cs ∧ Holds w' (fun g => w.heap.size < g) s done.len cs) (fun _ i _ => L.length - (intOf i).toNat)
      case atStart =>
        refine ⟨.nil, [], by simp [F.len], rfl, ?_, HX1.out, hB1, rfl, World.ownsRow_nil _ _ _ _, .inl ⟨rfl, rfl⟩⟩
        rw [e1.out]
        show rulesF D L = (rulesF D L).map _
        cases rulesF D L with
        | none => rfl
        | some p => rfl
      case round =>
        clear hB1 HX1 e1
        obtain ⟨done, cs, hj, rfl, hRr, hX, hB, hK, hO, hH⟩ := hrel
        have HRr := hide hRr
        have HX := hide hX
        have HK := hide hK
        have HO := hide hO
        have HH := hide hH
        clear hRr hX hK hO hH
        obtain ⟨sad, sn, sc, hsf⟩ : ∃ sad sn sc, u6 = .slice sad sn sc := by
          rcases HH.out with ⟨_, e⟩ | ⟨_, g, cap, e, _⟩ <;> exact ⟨_, _, _, e⟩
        subst hsf
        have xl := HX.out.lt
        obtain ⟨j, hjd⟩ : ∃ j, j = done.len := ⟨_, rfl⟩
        rw [← hjd] at hj HRr HO HH ⊢
        have HJ := hide hjd
        clear hjd
        by_cases hlt : j < L.length
        · have hlt' : (j : Int) < (L.length : Int) := by omega
          obtain ⟨b, o, v, rfl, hb, p0, pv⟩ := QRow.at HR.out hB hlt
          have hs6 := HS.out L[j] (List.getElem_mem hlt)
          have hR2 : R = (match treeT D 40 L[j] with | none => none | some a => (rulesF D (L.drop (j + 1))).map (fun r => done.app (a.app r))) := by
            rw [HRr.out, List.drop_eq_getElem_cons hlt, rulesF]
            cases treeT D 40 L[j] with
            | none => rfl
            | some a => simp only [Option.map_map]; rfl
          obtain ⟨ad1, c1, rfl, pr, -⟩ := pv
          have HC := hide (l8ReadPat_all L[j].length (.agg #[.slice da D.length dc]) D ad1 c1 L[j] 0 wr hs6 Hd.out (HD.out.below hB) pr (by omega) (by omega))
          unfold RdGoal at HC
          rw [List.drop_zero] at HC
          obtain ⟨l, hl0⟩ : ∃ l, l = L[j] := ⟨_, rfl⟩
          rw [← hl0] at p0 HC hR2 hs6
          have HR2 := hide hR2
          have cx := HX.out.c
          obtain ⟨N, hN⟩ : ∃ N, N = l.length := ⟨_, rfl⟩
          rw [← hN] at p0 HC hs6
          have HN := hide hN
          clear hl0 hR2 pr HRr hN
          go_wp2_with fail
          refine Calls.mono HC.out ?_
          rintro e w3 ⟨hb3, ho3⟩
          have hsz3 := hb3.size
          have hB3 : Below w.heap.size w w3 := hB.trans (hb3.mono hB.size)
          have HX3 := hide (HX.out.below hb3 xl)
          clear p0 cx HC HX
          cases hrd : rt D 1 l with
          | none =>
            rw [hrd] at ho3
            have e1 : R = none := by rw [HR2.out, show treeT D 40 l = none by unfold treeT; rw [hrd]; split <;> rfl]
            subst e1
            have ho3' : e = .returned (.tuple #[.agg #[.int .i64 0, .slice none 0 0], .int .i64 0]) := ho3
            subst ho3'
            clear ho3 hrd
            go_wp2_with fail
            exact bodyPost_ret (v := .tuple #[.slice none 0 0, .bool false]) (by simp [results, Try.results19, go_sem]) rfl ⟨hB3.alloc hB3.size _, rfl⟩
          | some q =>
            obtain ⟨a, r'⟩ := q
            rw [hrd] at ho3
            obtain ⟨y, ky, sy, rfl, rfl, hTy⟩ := ho3
            have hrf := rt_flat hrd
            have hrl' : r'.length < N := by have := congrArg List.length hrf.1; have := HN.out; simp [F.flat] at *; omega
            obtain ⟨yad, yc, rfl⟩ := hTy.form
            obtain ⟨yn, hyn⟩ : ∃ yn, yn = ky.len := ⟨_, rfl⟩
            rw [← hyn] at hTy ⊢
            have HTy := hide hTy
            obtain ⟨Y, hY⟩ : ∃ Y, Y = tcon y := ⟨_, rfl⟩
            rw [← hY]
            have HYc := hide hY
            clear hyn hTy hrf hY
            have hT40 : treeT D 40 l = if l.length ≤ 40 ∧ r'.length = 0 then some (.cons y ky .nil) else none := by
              unfold treeT
              rw [hrd]
              by_cases h4 : l.length ≤ 40
              · rw [if_pos h4]
                cases r' with
                | nil => simp [h4]
                | cons z r => simp
              · rw [if_neg h4, if_neg (fun h => h4 h.1)]
            rw [hT40] at HR2
            clear hT40 hrd
            have hne : ¬ ((N - r'.length : Nat) : Int) = 0 := by omega
            by_cases hr0 : r'.length = 0
            · have he : ((N - r'.length : Nat) : Int) = (N : Int) := by omega
              rw [he] at hne ⊢
              clear he
              by_cases h40 : N ≤ 40
              · have h40' : ¬ (40 : Int) < (N : Int) := by omega
                have HR3 := hide (show R = (rulesF D (L.drop (j + 1))).map (fun r => done.app ((F.cons y ky .nil).app r)) by rw [HR2.out, if_pos ⟨by rw [← HN.out]; exact h40, hr0⟩])
                have hb0 : ((N : Int) == 0) = false := by simp; omega
                have hb1 : ((N : Int) == (N : Int)) = true := by simp
                clear HR2 hr0 hrl'
                have hO3 := tOwn_keep HO.out (w' := w3) (fun k _ hk => hb3.block k hk)
                have hol := HO.out.lt
                have HOl := hide hol
                clear hol
                go_wp2_with (at_builtin; refine wpList_append_sep rfl _ _ 45 rfl (w.heap.size + 1) 50 i0 (.agg #[.int .i64 0, .slice none 0 0]) 2 32 Try.underlying45 Hi.out hz0 hz1 hz2 rfl (by decide) _ _ _ rfl ((hO3.alloc _).alloc _) ⟨w3.heap.size + 1, 0, none⟩ 1 1 (tC y (.slice yad yn yc)) rfl rfl ?c1 ?c2 ?c3 ?c4 ?c5 ?_)
                case c1 => exact tC_cells (by have := heap_alloc_new (w3.alloc (.cells #[.int .i64 Y, .slice yad yn yc] 50)) (.cells #[.int .i64 Y, .slice yad yn yc] 50); rw [← HYc.out]; simpa using this)
                case c2 => exact tC_one _ _ rfl
                case c3 => unfold maxLen; omega
                case c4 => omega
                case c5 => simp; omega
                intro v' w4 hown4 hgrow hap
                have hb4 : Below (w.heap.size + 1) w3 w4 := (((Below.refl _ _).alloc (by omega) _).alloc (by simp; omega) _).grown hgrow (by simp; omega) (fun k hk => (HOl.out k hk).1)
                have hk4 : ∀ k, (Value.slice sad sn sc).ownBlock ≠ some k → k < w3.heap.size → w4.heap[k]? = w3.heap[k]? := fun k hk hlt => by
                  rw [hgrow.block k (by simp; omega) (fun e => hk e.symm), heap_alloc_old _ _ (by simp; omega), heap_alloc_old _ _ hlt]
                have hap' : ∀ k, k < w3.heap.size → (Value.slice sad sn sc).ownBlock ≠ some k → v'.ownBlock ≠ some k := fun k hk hn e => by
                  rcases hap k e with h | h
                  · exact hn h
                  · simp at h; omega
                have hsz4 : w3.heap.size ≤ w4.heap.size := hb4.size
                have HX4 := hide (HX3.out.below hb4 (by omega))
                obtain ⟨g, cap, rfl, hg0, hg1, hgc⟩ := tOwn_lies hown4 (by omega)
                have HL := hide hgc
                have HK4 := hide hk4
                have HO4 := hide hown4
                have HAp := hide hap'
                clear hown4 hO3 hgrow hgc hap hk4 hap'
                go_wp2_with fail
                have hdl : (done.app (.cons y ky .nil)).len = j + 1 := by rw [F.app_len, ← HJ.out]; rfl
                have hown : ∀ k, wr.heap.size ≤ k → (Value.slice sad sn sc).ownBlock ≠ some k := fun k hk e => by have := (HOl.out k e).2; omega
                refine ⟨⟨done.app (.cons y ky .nil), cs ++ tC y (.slice yad yn yc), by omega, by rw [hdl]; go_num, ?_, HX4.out, hB3.trans (hb4.mono (by omega)), ?_, ?_, ?_⟩, by simp [intOf]; omega⟩
                · rw [HR3.out, hdl]
                  congr 1
                  funext p
                  rw [F.app_assoc]
                · have k1 : KidsAt w4 (fun k => w.heap.size < k ∧ (Value.slice (some ⟨g, 0, none⟩) (j + 1) cap).ownBlock ≠ some k) done cs := by
                    refine HK.out.keep (by omega) (fun k hk1 hk2 => ⟨?_, hk1.1, ?_⟩)
                    · rw [HK4.out k hk1.2 (by omega), hb3.block k hk2]
                    · exact HAp.out k (by omega) hk1.2
                  have k2 : KidT w4 (fun k => w.heap.size < k ∧ (Value.slice (some ⟨g, 0, none⟩) (j + 1) cap).ownBlock ≠ some k) ky (.slice yad yn yc) := by
                    refine HTy.out.keep (by omega) (fun k hk1 hk2 => ⟨?_, by omega, ?_⟩)
                    · rw [HK4.out k (hown k hk1) hk2]
                    · exact HAp.out k hk2 (hown k hk1)
                  exact KidsAt.app k1 ⟨.slice yad yn yc, [], (List.append_nil _).symm, k2, rfl⟩
                · rw [hdl]
                  exact HO4.out
                · rw [hdl]
                  exact .inr ⟨by omega, g, cap, rfl, by omega, by omega, HL.out⟩
              · have h40' : (40 : Int) < (N : Int) := by omega
                have e1 : R = none := by rw [HR2.out, if_neg (fun h => h40 (by rw [HN.out]; exact h.1))]
                subst e1
                clear HR2
                have hb0 : ((N : Int) == 0) = false := by simp; omega
                go_wp2_with fail
                exact bodyPost_ret (v := .tuple #[.slice none 0 0, .bool false]) (by simp [results, Try.results19, go_sem]) rfl ⟨hB3.alloc hB3.size _, rfl⟩
            · have e1 : R = none := by rw [HR2.out, if_neg (fun h => hr0 h.2)]
              subst e1
              clear HR2
              obtain ⟨E1, hE1⟩ : ∃ E1, E1 = N - r'.length := ⟨_, rfl⟩
              have hne2 : ¬ (E1 : Int) = (N : Int) := by omega
              rw [← hE1] at hne ⊢
              have hnb : ((E1 : Int) == (N : Int)) = false := by simp; omega
              have hnb2 : ((E1 : Int) != (N : Int)) = true := by simp; omega
              have hz0 : ((E1 : Int) == 0) = false := by simp; omega
              clear hE1
              go_wp2_with fail
              exact bodyPost_ret (v := .tuple #[.slice none 0 0, .bool false]) (by simp [results, Try.results19, go_sem]) rfl ⟨hB3.alloc hB3.size _, rfl⟩
        · obtain rfl : j = L.length := by omega
          have hR3 : R = some done := by rw [HRr.out, List.drop_length]; simp [rulesF, F.app_nil]
          have HR3 := hide hR3
          clear hR3 HRr
          go_wp2_with fail
          refine bodyPost_ret (v := .tuple #[.slice sad sn sc, .bool true]) (by simp [results, Try.results19, go_sem]) rfl ⟨hB, ?_⟩
          rw [HR3.out]
          refine ⟨_, rfl, cs, HK.out.keep (Nat.le_refl _) (fun k hk _ => ⟨rfl, hk.1⟩), ?_⟩
          rw [← HJ.out]
          exact HH.out
    · have h8' : (8 : Int) < (L.length : Int) := by omega
      have e1 : R = none := by rw [HGR.out, ruT, if_neg (by intro h; exact h8 h.2)]
      subst e1
      clear hd HGR
      go_wp2_with fail
      exact bodyPost_ret (v := .tuple #[.slice none 0 0, .bool false]) (by simp [results, Try.results19, go_sem]) rfl ⟨hB1, rfl⟩
end Go.Proofs.Ytmlpnmdckgppnaa.W

/-
  Joins of the specification: l11Joins; both JoinsOf. Conditions: none but those that each theorem states.
-/
import Derived.Test.YtochhnibegcbpaaJnJ
namespace Go.Proofs.Ytochhnibegcbpaa.W
open Go.ChangeShapes Go.WideShapes Go.ChangeAt Go.RowKit Go.Joins
set_option linter.unusedVariables false
set_option linter.unusedSimpArgs false

/-- A row of joins. -/
def JN (f : Nat → Nat → Bool) (l o : List Int) : Prop := Ris o ∧ ∀ x ∈ o, ∃ k : Nat, x = (k : Int) ∧ JP f l k
theorem JP.lt {L : List (List Int)} (hg : GG L) {l : List Int} {k : Nat} (h : JP (fr L) l k) : k < L.length := by
  cases h with
  | start h1 h2 => exact ((fr_iff.1 h2).lt hg).2
  | step h1 h2 => exact ((fr_iff.1 h2).lt hg).2
theorem JN.len {L : List (List Int)} (hg : GG L) {l o : List Int} (h : JN (fr L) l o) : o.length ≤ 12 := by
  have := rise_len o 0 12 h.1 (by omega) (fun x hx => by
    obtain ⟨k, rfl, hk⟩ := h.2 x hx
    have := hk.lt hg
    have := hg.2.1
    omega)
  omega
theorem JN.put {f : Nat → Nat → Bool} {l o : List Int} (h : JN f l o) {y : Nat} (hy : JP f l y) : JN f l (putL o (y : Int)) := by
  refine ⟨putL_ris _ _ h.1, fun x hx => ?_⟩
  rcases (putL_mem _ _ _).1 hx with e | e
  · exact ⟨y, e, hy⟩
  · exact h.2 x e
/-- The joins of a set, rising. -/
noncomputable def jl (L : List (List Int)) (l : List Int) : List Int := lst (js (fr L) l) 12
theorem jl_len (L : List (List Int)) (l : List Int) : (jl L l).length ≤ 12 := lst_len _ _
theorem jl_mem {L : List (List Int)} (hg : GG L) {l : List Int} {x : Int} : x ∈ jl L l ↔ ∃ k : Nat, x = (k : Int) ∧ JP (fr L) l k := by
  unfold jl
  rw [lst_mem]
  constructor
  · rintro ⟨k, e, -, h⟩; exact ⟨k, e, js_iff.1 h⟩
  · rintro ⟨k, e, h⟩; exact ⟨k, e, by have := h.lt hg; have := hg.2.1; omega, js_iff.2 h⟩
theorem JN.done {L : List (List Int)} (hg : GG L) {l o : List Int} (h : JN (fr L) l o) (hc : ∀ x : Nat, (x : Int) ∈ l ++ o → ∀ y : Nat, fr L x y = true → (y : Int) ∈ o) : o = jl L l := by
  refine rise_ext _ _ h.1 (lst_ris _ _) (fun x => ?_)
  show x ∈ o ↔ x ∈ jl L l
  rw [jl_mem hg]
  constructor
  · exact h.2 x
  · rintro ⟨k, rfl, hk⟩
    exact JP.least (P := fun k => (k : Int) ∈ o) (fun x y hx hf => hc x (List.mem_append.2 (.inl hx)) y hf) (fun x y hx hf => hc x (List.mem_append.2 (.inr hx)) y hf) hk

set_option maxHeartbeats 8000000 in
theorem l11Joins_any (v s : Value) (L : List (List Int)) (l : List Int) (w : World) (h : GRow w v L) (hg : GG L) (hs : NV w s l) (hl : l.length ≤ 1000) (hbl : ∀ x ∈ l, 0 ≤ x ∧ x < (L.length : Int)) :
    Calls Try.prog 41 #[v, s] w fun e w' => ∃ v', e = .returned v' ∧ NV w' v' (jl L l) ∧ Below w.heap.size w w' := by
  obtain ⟨ad, c, rfl, hR, hsm, hlc⟩ := h
  obtain ⟨sa, sc, rfl, -⟩ := hs.form
  have hB0 : Below w.heap.size w (w.alloc (.cells #[.slice ad L.length c] 28)) := (Below.refl _ _).alloc (Nat.le_refl _) _
  have HX := hide (Bx.new w #[.slice ad L.length c] 28)
  have HV : Hid (∀ w', Below w.heap.size w w' → GRow w' (.agg #[.slice ad L.length c]) L) := hide (fun w' hb => ⟨ad, c, rfl, hR.below hb, hsm, hlc⟩)
  have HS : Hid (∀ w', Below w.heap.size w w' → NV w' (.slice sa l.length sc) l) := hide (fun w' hb => hs.below hb)
  have HG := hide hg
  have HBl := hide hbl
  have hl12 := hg.2.1
  clear hR hsm hlc hg hs hbl
  go_enter Try.func41, Try.ntmps41
  go_wp2_with fail
  refine Calls.mono (l11Front_any _ L _ (HV.out _ hB0) HG.out) ?_
  rintro e W1 ⟨S, rfl, -, hQ, hb⟩
  have hB1 := hB0.trans (hb.mono hB0.size)
  have HQ := hide hQ
  have HSs := hide (HS.out _ hB1)
  clear hb hB0 HX HV hQ HS
  obtain ⟨nl, hnl⟩ : ∃ nl, nl = l.length := ⟨_, rfl⟩
  have HPs : Hid (∀ W, Below W1.heap.size W1 W → PtI W (.slice sa nl sc) nl (ic l)) := hide (fun W hb => by have := (HSs.out.below hb).pt; rw [← hnl] at this; exact this)
  rw [← hnl] at hl ⊢
  have Hnl := hide hnl
  clear hnl HSs
  go_wp2_with fail
  go_loopw [6] (fun v6 w' => ∃ o : List Int, NV w' v6 o ∧ JN (fr L) l o ∧ Below W1.heap.size W1 w') (fun v6 _ => 12 - slLen v6)
  case atStart => exact ⟨[], .inl ⟨rfl, rfl⟩, ⟨by simp, by simp⟩, Below.refl _ _⟩
  case round =>
    obtain ⟨o, hN, hI, hB⟩ := hrel
    obtain ⟨a6, c6, rfl, -⟩ := hN.form
    have ho12 := hI.len HG.out
    have HN := hide hN
    have HI := hide hI
    have HB := hide hB
    clear hN hI hB
    obtain ⟨N0, hN0⟩ : ∃ N0, N0 = o.length := ⟨_, rfl⟩
    have HN0 := hide hN0
    have HPo : Hid (∀ W, Below wr.heap.size wr W → PtI W (.slice a6 N0 c6) N0 (ic o)) := hide (fun W hb => by have := (HN.out.below hb).pt; rw [← hN0] at this; exact this)
    rw [← hN0] at ho12 ⊢
    clear hN0
    have hbe : Below wr.heap.size wr (wr.alloc (.cells #[] 3)) := (Below.refl _ _).alloc (Nat.le_refl _) _
    have hPs := HPs.out _ (HB.out.trans (hbe.mono HB.out.size))
    have hOe : (wr.alloc (.cells #[] 3)).ownsRow wr.heap.size 3 1 (.slice (some ⟨wr.heap.size, 0, none⟩) 0 0) 0 [] := ⟨by simp, .inr ⟨wr.heap.size, 0, #[], rfl, Nat.le_refl _, heap_alloc_new wr _, Nat.le_refl _, by unfold maxLen; omega, by simp, by simp⟩⟩
    have hsz : wr.heap.size ≤ (wr.alloc (.cells #[] 3)).heap.size := by simp
    have HOe := hide hOe
    have HPse := hide hPs
    clear hOe hPs
    go_wp2_with (at_builtin; refine wpList_append_i rfl _ _ rfl wr.heap.size _ 0 _ rfl HOe.out _ nl _ rfl HPse.out (by omega) hsz ?_)
    intro v18 w3 hO3 hg3
    have hb3 : Below wr.heap.size wr w3 := hbe.trans (grown_below hg3 hsz (own_ge HOe.out))
    have HPoe := hide (HPo.out _ hb3)
    have HO3 := hide hO3
    obtain ⟨a18, c18, e18⟩ := own_form hO3
    subst e18
    have hsz3 := hb3.size
    clear hO3 hg3 HOe HPse hbe hsz
    go_wp2_with (at_builtin; refine wpList_append_i rfl _ _ rfl wr.heap.size _ nl _ rfl HO3.out _ N0 _ rfl HPoe.out (by omega) hsz3 ?_)
    intro v20 w4 hO4 hg4
    have hb4 : Below wr.heap.size wr w4 := hb3.trans (grown_below hg4 hsz3 (own_ge HO3.out))
    rw [← ic_app] at hO4
    obtain ⟨T, hT⟩ : ∃ T, T = l ++ o := ⟨_, rfl⟩
    have hTl : T.length = nl + N0 := by rw [hT, List.length_append, Hnl.out, HN0.out]
    rw [← hT] at hO4
    have HN4 := hide (NV.ofOwn hO4 hTl.symm)
    have HT := hide hT
    obtain ⟨a20, c20, e20⟩ := own_form hO4
    obtain ⟨nT, hnT⟩ : ∃ nT, nT = nl + N0 := ⟨_, rfl⟩
    rw [← hnT] at e20 hTl
    subst e20
    have hnT24 : nT ≤ 1012 := by omega
    have HTl := hide hTl
    have HTb : Hid (∀ q (h : q < T.length), ∃ k : Nat, T[q] = (k : Int) ∧ k < L.length ∧ ∀ y, fr L k y = true → JP (fr L) l y) := hide (fun q h => by
      have hm : T[q] ∈ l ++ o := by rw [← hT]; exact List.getElem_mem h
      rcases List.mem_append.1 hm with hm | hm
      · have := HBl.out _ hm
        refine ⟨T[q].toNat, by omega, by omega, fun y hy => .start (x := T[q].toNat) ?_ hy⟩
        rw [show ((T[q].toNat : Nat) : Int) = T[q] by omega]
        exact hm
      · obtain ⟨k, e, hk⟩ := HI.out.2 _ hm
        exact ⟨k, e, hk.lt HG.out, fun y hy => .step hk hy⟩)
    have HN04 : Hid (NV w4 (.slice a6 N0 c6) o) := hide (by have := HN.out.below hb4; rw [HN0.out]; exact this)
    have HB4 := hide (HB.out.trans (hb4.mono HB.out.size))
    have HQ4 := hide (HQ.out.below HB4.out)
    clear hO4 hg4 hnT HO3 HPoe hT hTl hb4 hb3 hsz3
    go_wp2_with fail
    go_loopw [6, 22] (fun v6 i w' => ∃ (j : Nat) (o' : List Int), j ≤ nT ∧ i = .int .i64 j ∧ NV w' v6 o' ∧ JN (fr L) l o' ∧ N0 ≤ o'.length ∧ (o'.length = N0 → o' = o ∧ ∀ q (h : q < T.length), q < j → ∀ x k : Nat, T[q] = (k : Int) → fr L k x = true → (x : Int) ∈ o) ∧ Below w4.heap.size w4 w') (fun _ i _ => nT - (intOf i).toNat)
    case atStart => exact ⟨0, o, by omega, rfl, HN04.out, HI.out, by rw [HN0.out]; omega, fun _ => ⟨rfl, by intros; omega⟩, Below.refl _ _⟩
    case round =>
      clear HN04
      obtain ⟨j, o', hj, rfl, hN, hI2, hle, hcl, hB2⟩ := hrel
      obtain ⟨a7, c7, rfl, -⟩ := hN.form
      have ho2 := hI2.len HG.out
      have HN' := hide hN
      have HI' := hide hI2
      have HB' := hide hB2
      have HC := hide hcl
      have HLe := hide hle
      clear hN hI2 hB2 hcl hle
      by_cases hlt : j < nT
      · have hlt' : (j : Int) < (nT : Int) := by omega
        have hjT : j < T.length := by have := HTl.out; omega
        obtain ⟨b20, o20, rfl, p0⟩ := NV.at (HTl.out ▸ HN4.out : NV w4 (.slice a20 T.length c20) T) HB'.out hjT
        obtain ⟨K, hK, hKl, hKj⟩ := HTb.out j hjT
        rw [hK] at p0
        have HK := hide hK
        have hKl' : (K : Int) < (L.length : Int) := by omega
        obtain ⟨xF, qF, hNF⟩ := (HQ4.out.below HB'.out).at (q := K) (by rw [frs_len]; exact hKl)
        rw [frs_at] at hNF
        obtain ⟨fl, hfl⟩ : ∃ fl, fl = frL L K := ⟨_, rfl⟩
        rw [← hfl] at hNF
        have hfn : fl.length ≤ 12 := by rw [hfl]; exact frL_len L K
        have HFm : Hid (∀ x : Int, x ∈ fl ↔ ∃ t : Nat, x = (t : Int) ∧ fr L K t = true) := hide (fun x => by
          rw [hfl, frL_mem HG.out]
          constructor
          · rintro ⟨t, e, ht⟩; exact ⟨t, e, fr_iff.2 ht⟩
          · rintro ⟨t, e, ht⟩; exact ⟨t, e, fr_iff.1 ht⟩)
        obtain ⟨aF, cF, rfl, -⟩ := hNF.form
        obtain ⟨nf, hnf⟩ : ∃ nf, nf = fl.length := ⟨_, rfl⟩
        have HNF := hide hNF
        rw [← hnf] at HNF hfn qF
        have Hnf := hide hnf
        have HKj := hide hKj
        clear hNF hfl hnf hK hKj
        go_wp2_with fail
        clear p0 qF
        obtain ⟨WS, hWS⟩ : ∃ WS, WS = wr := ⟨_, rfl⟩
        rw [← hWS] at HNF
        have HBS : Hid (Below w4.heap.size w4 WS) := hide (by rw [hWS]; exact HB'.out)
        have HBR : Hid (Below WS.heap.size WS wr) := hide (by rw [hWS]; exact Below.refl _ _)
        clear hWS
        go_loopw [6, 31] (fun v6 i w' => ∃ (m : Nat) (o2 : List Int), m ≤ nf ∧ i = .int .i64 m ∧ NV w' v6 o2 ∧ JN (fr L) l o2 ∧ N0 ≤ o2.length ∧ (o2.length = N0 → o2 = o ∧ (∀ q (h : q < T.length), q < j → ∀ x k : Nat, T[q] = (k : Int) → fr L k x = true → (x : Int) ∈ o) ∧ ∀ q (h : q < fl.length), q < m → fl[q] ∈ o) ∧ Below WS.heap.size WS w') (fun _ i _ => nf - (intOf i).toNat)
        case atStart => exact ⟨0, o', by omega, rfl, HN'.out, HI'.out, HLe.out, fun h => ⟨(HC.out h).1, (HC.out h).2, by intros; omega⟩, HBR.out⟩
        case round =>
          clear HN' HI' HB' HC HLe HBR ho2
          obtain ⟨m, o2, hm, rfl, hN, hI2, hle, hcl, hB2⟩ := hrel
          obtain ⟨a8, c8, rfl, -⟩ := hN.form
          have ho2 := hI2.len HG.out
          have HN' := hide hN
          have HI' := hide hI2
          have HB' := hide hB2
          have HC := hide hcl
          have HLe := hide hle
          clear hN hI2 hB2 hcl hle
          by_cases hlm : m < nf
          · have hlm' : (m : Int) < (nf : Int) := by omega
            have hmf : m < fl.length := by rw [← Hnf.out]; exact hlm
            obtain ⟨bF, oF, rfl, p0⟩ := NV.at (Hnf.out ▸ HNF.out : NV WS (.slice aF fl.length cF) fl) HB'.out hmf
            obtain ⟨Y, hY, hYf⟩ := (HFm.out _).1 (List.getElem_mem hmf)
            rw [hY] at p0
            have HY := hide hY
            have HI2 := hide (HI'.out.put (HKj.out Y hYf))
            have hgr := putL_grow (Y : Int) HI'.out.1
            have HC2 : Hid ((putL o2 (Y : Int)).length = N0 → putL o2 (Y : Int) = o ∧ (∀ q (h : q < T.length), q < j → ∀ x k : Nat, T[q] = (k : Int) → fr L k x = true → (x : Int) ∈ o) ∧ ∀ q (h : q < fl.length), q < m + 1 → fl[q] ∈ o) := hide (fun h => by
              have hle := HLe.out
              have hin := hgr.2 (by omega)
              rw [putL_old _ o2 HI'.out.1 hin] at h ⊢
              obtain ⟨e1, e2, e3⟩ := HC.out h
              refine ⟨e1, e2, fun q hq hqm => ?_⟩
              by_cases e : q = m
              · subst e; rw [HY.out, ← e1]; exact hin
              · exact e3 q hq (by omega))
            have HLe2 : Hid (N0 ≤ (putL o2 (Y : Int)).length) := hide (Nat.le_trans HLe.out hgr.1)
            clear hgr hY hYf
            go_wp2_with fail
            refine Calls.mono (l1Put_any _ o2 Y _ HN'.out (by omega)) ?_
            rintro e w1 ⟨v1, rfl, hN1, hb1⟩
            have HN1 := hide hN1
            have HB1 := hide (HB'.out.trans (hb1.mono HB'.out.size))
            clear hN1 hb1 p0
            go_wp2_with fail
            exact ⟨⟨m + 1, _, by omega, by go_num, HN1.out, HI2.out, HLe2.out, HC2.out, HB1.out⟩, by simp [intOf]; omega⟩
          · have HB2 := hide (HBS.out.trans (HB'.out.mono HBS.out.size))
            have HC2 : Hid (o2.length = N0 → o2 = o ∧ ∀ q (h : q < T.length), q < j + 1 → ∀ x k : Nat, T[q] = (k : Int) → fr L k x = true → (x : Int) ∈ o) := hide (fun h => by
              obtain ⟨e1, e2, e3⟩ := HC.out h
              refine ⟨e1, fun q hq hqj x k hk hf => ?_⟩
              by_cases e : q = j
              · subst e
                rw [HK.out] at hk
                obtain rfl : K = k := by omega
                obtain ⟨q2, hq2, e4⟩ := List.getElem_of_mem ((HFm.out _).2 ⟨x, rfl, hf⟩)
                rw [← e4]
                exact e3 q2 hq2 (by rw [← Hnf.out] at hq2; omega)
              · exact e2 q hq (by omega) x k hk hf)
            go_wp2_with fail
            exact ⟨⟨j + 1, o2, by omega, by go_num, HN'.out, HI'.out, HLe.out, HC2.out, HB2.out⟩, by simp [intOf]; omega⟩
      · have HBw := hide (HB4.out.trans (HB'.out.mono HB4.out.size))
        by_cases heq : o'.length = N0
        · have HE : Hid (o' = jl L l) := hide (by
            obtain ⟨e1, e2⟩ := HC.out heq
            subst e1
            refine HI'.out.done HG.out (fun x hx y hf => ?_)
            rw [← HT.out] at hx
            obtain ⟨q, hq, e⟩ := List.getElem_of_mem hx
            exact e2 q hq (by have := HTl.out; omega) y x e hf)
          have heqb : ((o'.length : Int) == (N0 : Int)) = true := by rw [beq_iff_eq]; omega
          have HBf := hide (hB1.trans (HBw.out.mono hB1.size))
          clear heq
          go_wp2_with fail
          go_ret
          exact ⟨_, rfl, by rw [← HE.out]; exact HN'.out, HBf.out⟩
        · have heqb : ((o'.length : Int) == (N0 : Int)) = false := by rw [beq_eq_false_iff_ne]; omega
          have hlt2 : N0 < o'.length := by have := HLe.out; omega
          clear heq
          go_wp2_with fail
          exact ⟨⟨o', HN'.out, HI'.out, HBw.out⟩, by simp only [slLen]; omega⟩

noncomputable def joB (L : List (List Int)) (l : List Int) : Bool := goodG L && sG L l
/-- What JoinsOf tells. -/
noncomputable def joR (L : List (List Int)) (l : List Int) : List Int := if joB L l = true then jl L l else []
theorem joR_len (L : List (List Int)) (l : List Int) : (joR L l).length ≤ 12 := by
  unfold joR; split
  · exact jl_len L l
  · simp

set_option maxHeartbeats 4000000 in
theorem specJoins_any (v s : Value) (L : List (List Int)) (l : List Int) (w : World) (h : GRow w v L) (hs : NV w s l) (hl : l.length ≤ 1048576) :
    Calls Try.prog 18 #[v, s] w fun e w' => ∃ v', e = .returned (.tuple #[v', .bool (joB L l)]) ∧ NV w' v' (joR L l) ∧ Below w.heap.size w w' := by
  obtain ⟨ad, c, rfl, hR, hsm, hlc⟩ := h
  obtain ⟨sa, sc, rfl, -⟩ := hs.form
  have hB0 : Below w.heap.size w (w.alloc (.cells #[.slice ad L.length c] 28)) := (Below.refl _ _).alloc (Nat.le_refl _) _
  have HX := hide (Bx.new w #[.slice ad L.length c] 28)
  have HV : Hid (∀ w', Below w.heap.size w w' → GRow w' (.agg #[.slice ad L.length c]) L) := hide (fun w' hb => ⟨ad, c, rfl, hR.below hb, hsm, hlc⟩)
  have HS : Hid (∀ w', Below w.heap.size w w' → NV w' (.slice sa l.length sc) l) := hide (fun w' hb => hs.below hb)
  clear hR hsm hlc hs
  go_enter Try.func18, Try.ntmps18
  go_wp2_with fail
  refine Calls.mono (specGoodG_any _ L _ (HV.out _ hB0)) ?_
  rintro e w1 ⟨rfl, hb⟩
  have hB1 := hB0.trans (hb.mono hB0.size)
  have HX1 := hide (HX.out.below hb HX.out.lt)
  clear hb hB0 HX
  have cx := HX1.out.c
  have lx := HX1.out.lt
  have HNo : Hid (joB L l = false → ∀ w', Below w.heap.size w w' → ∃ v', Ending.returned (.tuple #[.slice none 0 0, .bool false]) = .returned (.tuple #[v', .bool (joB L l)]) ∧ NV w' v' (joR L l) ∧ Below w.heap.size w w') := hide (fun he w' hb => ⟨_, by rw [he], by rw [joR, if_neg (by rw [he]; simp)]; exact .inl ⟨rfl, rfl⟩, hb⟩)
  by_cases hg : goodG L = true
  · have HGG := hide (goodG_iff.1 hg)
    have Hg := hide hg
    rw [hg]
    clear hg
    go_wp2_with fail
    refine Calls.mono (l11Blocks_any _ _ L l _ (HV.out _ hB1) HGG.out (HS.out _ hB1) hl) ?_
    rintro e w2 ⟨rfl, hb⟩
    have hB2 := hB1.trans (hb.mono hB1.size)
    have HX2 := hide (HX1.out.below hb HX1.out.lt)
    clear hb cx lx HX1 hB1
    by_cases hbg : bG L l = true
    · have HBG := hide (bG_iff.1 hbg)
      have Hbg := hide hbg
      rw [hbg]
      clear hbg
      go_wp2_with fail
      refine Calls.mono (l1Has_v _ l 0 _ (HS.out _ hB2) hl) ?_
      rintro e w3 ⟨rfl, hw⟩
      obtain rfl := hw
      by_cases h0 : (0 : Int) ∈ l
      · have HRe : Hid (joB L l = true) := hide (by rw [joB, Hg.out, sG, Hbg.out, decide_eq_true h0]; rfl)
        rw [decide_eq_true h0]
        clear h0
        have cx := HX2.out.c
        have lx := HX2.out.lt
        have hl12 : l.length ≤ 12 := by have := HBG.out.1.len; have := HGG.out.2.1; omega
        go_wp2_with fail
        refine Calls.mono (l11Joins_any _ _ L l _ (HV.out _ hB2) HGG.out (HS.out _ hB2) (by omega) (fun x hx => HBG.out.1.mem hx)) ?_
        rintro e w4 ⟨v4, rfl, hN, hb⟩
        have hB4 := hB2.trans (hb.mono hB2.size)
        have HN := hide hN
        obtain ⟨a4, c4, rfl, -⟩ := hN.form
        clear hb hN cx lx
        go_wp2_with fail
        refine bodyPost_ret (v := .tuple #[.slice a4 (jl L l).length c4, .bool true]) (by simp [results, Try.results18, go_sem]) rfl ?_
        exact ⟨_, by rw [HRe.out], by rw [joR, if_pos HRe.out]; exact HN.out, hB4⟩
      · have HRe : Hid (joB L l = false) := hide (by rw [joB, Hg.out, sG, Hbg.out, decide_eq_false h0]; rfl)
        rw [decide_eq_false h0]
        clear h0
        go_wp2_with fail
        exact bodyPost_ret (v := .tuple #[.slice none 0 0, .bool false]) (by simp [results, Try.results18, go_sem]) rfl (HNo.out HRe.out _ hB2)
    · rw [Bool.not_eq_true] at hbg
      have HRe : Hid (joB L l = false) := hide (by rw [joB, Hg.out, sG, hbg]; rfl)
      rw [hbg]
      clear hbg
      go_wp2_with fail
      exact bodyPost_ret (v := .tuple #[.slice none 0 0, .bool false]) (by simp [results, Try.results18, go_sem]) rfl (HNo.out HRe.out _ hB2)
  · rw [Bool.not_eq_true] at hg
    have HRe : Hid (joB L l = false) := hide (by rw [joB, hg]; rfl)
    rw [hg]
    clear hg
    go_wp2_with fail
    exact bodyPost_ret (v := .tuple #[.slice none 0 0, .bool false]) (by simp [results, Try.results18, go_sem]) rfl (HNo.out HRe.out _ hB1)

set_option maxHeartbeats 4000000 in
theorem implJoins_any (v s : Value) (L : List (List Int)) (l : List Int) (w : World) (h : GRow w v L) (hs : NV w s l) (hl : l.length ≤ 1048576) :
    Calls Try.prog 20 #[v, s] w fun e w' => ∃ v', e = .returned (.tuple #[v', .bool (joB L l)]) ∧ w'.ownsRow w.heap.size 3 1 v' (joR L l).length (ic (joR L l)) ∧ Below w.heap.size w w' := by
  obtain ⟨ad, c, rfl, hR, hsm, hlc⟩ := h
  obtain ⟨sa, sc, rfl, -⟩ := hs.form
  have hB0 : Below w.heap.size w (w.alloc (.cells #[.slice ad L.length c] 28)) := (Below.refl _ _).alloc (Nat.le_refl _) _
  have HX := hide (Bx.new w #[.slice ad L.length c] 28)
  have HV : Hid (∀ w', Below w.heap.size w w' → GRow w' (.agg #[.slice ad L.length c]) L) := hide (fun w' hb => ⟨ad, c, rfl, hR.below hb, hsm, hlc⟩)
  have HS : Hid (∀ w', Below w.heap.size w w' → NV w' (.slice sa l.length sc) l) := hide (fun w' hb => hs.below hb)
  clear hR hsm hlc hs
  go_enter Try.func20, Try.ntmps20
  go_wp2_with fail
  refine Calls.mono (implGoodG_any _ L _ (HV.out _ hB0)) ?_
  rintro e w1 ⟨rfl, hb⟩
  have hB1 := hB0.trans (hb.mono hB0.size)
  have HX1 := hide (HX.out.below hb HX.out.lt)
  clear hb hB0 HX
  have cx := HX1.out.c
  have lx := HX1.out.lt
  have HNo : Hid (joB L l = false → ∀ w', Below w.heap.size w w' → ∃ v', Ending.returned (.tuple #[.slice none 0 0, .bool false]) = .returned (.tuple #[v', .bool (joB L l)]) ∧ w'.ownsRow w.heap.size 3 1 v' (joR L l).length (ic (joR L l)) ∧ Below w.heap.size w w') := hide (fun he w' hb => ⟨_, by rw [he], by rw [joR, if_neg (by rw [he]; simp)]; exact World.ownsRow_nil _ _ _ _, hb⟩)
  by_cases hg : goodG L = true
  · have HGG := hide (goodG_iff.1 hg)
    have Hg := hide hg
    rw [hg]
    clear hg
    go_wp2_with fail
    refine Calls.mono (areSets_any _ _ L l _ (HV.out _ hB1) HGG.out (HS.out _ hB1) hl) ?_
    rintro e w2 ⟨rfl, hb⟩
    have hB2 := hB1.trans (hb.mono hB1.size)
    have HX2 := hide (HX1.out.below hb HX1.out.lt)
    clear hb cx lx HX1 hB1
    by_cases hbg : sG L l = true
    · have HBG : Hid (BG L l) := hide (by
        unfold sG at hbg
        rw [Bool.and_eq_true] at hbg
        exact bG_iff.1 hbg.1)
      have HRe : Hid (joB L l = true) := hide (by rw [joB, Hg.out, hbg]; rfl)
      rw [hbg]
      clear hbg
      have cx := HX2.out.c
      have lx := HX2.out.lt
      have hl12 : l.length ≤ 12 := by have := HBG.out.1.len; have := HGG.out.2.1; omega
      go_wp2_with fail
      refine Calls.mono (frontiers_any _ L _ (HV.out _ hB2) HGG.out) ?_
      rintro e w3 ⟨rfl, hb⟩
      have hB3 := hB2.trans (hb.mono hB2.size)
      clear hb cx lx HX2 hB2
      have HJo := hide (joinsOf_any (fr L) (fr_lt HGG.out) _ l _ (HS.out _ hB3) (by omega) (HBG.out.blk HGG.out))
      obtain ⟨F, hF⟩ : ∃ F, F = fr L := ⟨_, rfl⟩
      rw [← hF] at HJo ⊢
      have HF := hide hF
      clear hF
      go_wp2_with fail
      refine Calls.mono HJo.out ?_
      rintro e w4 ⟨rfl, hb⟩
      have hB4 := hB3.trans (hb.mono hB3.size)
      clear hb hB3 HJo
      go_wp2_with fail
      refine Calls.mono (list_any _ _) ?_
      rintro e w5 ⟨v5, rfl, hO, hb⟩
      have hB5 := hB4.trans (hb.mono hB4.size)
      have HO := hide (own_lower hO hB4.size)
      rw [HF.out] at HO
      obtain ⟨a5, c5, e5⟩ := own_form HO.out
      obtain ⟨n5, hn5⟩ : ∃ n5, n5 = (lst (js (fr L) l) 12).length := ⟨_, rfl⟩
      rw [← hn5] at e5
      subst e5
      have Hn5 := hide hn5
      clear hb hO hn5
      go_wp2_with fail
      refine bodyPost_ret (v := .tuple #[.slice a5 n5 c5, .bool true]) (by simp [results, Try.results20, go_sem]) rfl ?_
      exact ⟨_, by rw [HRe.out], by rw [joR, if_pos HRe.out]; exact HO.out, hB5⟩
    · rw [Bool.not_eq_true] at hbg
      have HRe : Hid (joB L l = false) := hide (by rw [joB, Hg.out, hbg]; rfl)
      rw [hbg]
      clear hbg
      go_wp2_with fail
      exact bodyPost_ret (v := .tuple #[.slice none 0 0, .bool false]) (by simp [results, Try.results20, go_sem]) rfl (HNo.out HRe.out _ hB2)
  · rw [Bool.not_eq_true] at hg
    have HRe : Hid (joB L l = false) := hide (by rw [joB, hg]; rfl)
    rw [hg]
    clear hg
    go_wp2_with fail
    exact bodyPost_ret (v := .tuple #[.slice none 0 0, .bool false]) (by simp [results, Try.results20, go_sem]) rfl (HNo.out HRe.out _ hB1)
end Go.Proofs.Ytochhnibegcbpaa.W

/-
  Types in the place of a type's variables, by the program: the contract of IsInstance. Conditions: at most 1048576 cells.
-/
import Derived.Test.YtjffignbiabmaabTyN0
import Derived.Maps.OwnSet
namespace Go.Proofs.Ytjffignbiabmaab.Y
open Go.Proofs.Ytjffignbiabmaab.W
open Go.ChangeShapes Go.WideShapes Go.ChangeAt Go.RowKit
open Go.Maps
set_option linter.unusedVariables false

/-- What IsInstance tells. -/
def insR (la lb : List Cc) : Bool := match treeT la, treeT lb with | some a, some b => inst a b | _, _ => false

/-- What stands at the loop's head. -/
def InsAt (w w' : World) (lb : List Cc) (B b : Nat) (G : Bool) (j : Nat) (v7 : Value) : Prop :=
  ∃ (aa bb : F) (σ : Sg) (adr : Option Addr) (cr : Nat), lb.drop j = bb.flat ∧ aa.len = bb.len ∧ aa.ok ∧ bb.ok ∧ aa.flat.length ≤ 60 ∧ v7 = .slice adr aa.flat.length cr ∧ aa.flat.length ≤ cr ∧ CRowB w b adr aa.flat ∧ SM w w' B b j σ ∧ G = (mtF aa bb σ).isSome ∧ Below w.heap.size w w' ∧ w.heap.size ≤ B

set_option maxRecDepth 20000 in
set_option maxHeartbeats 1000000 in
theorem implInst_good (ad1 ad2 : Option Addr) (c1 c2 : Nat) (la lb : List Cc) (a0 b0 : F) (w : World) (hl1 : la.length ≤ 1048576) (hl2 : lb.length ≤ 1048576) (hc1 : la.length ≤ c1) (h1 : CRow w ad1 la) (h2 : CRow w ad2 lb) (hA : treeT la = some a0) (hBt : treeT lb = some b0) :
    Calls Try.prog 23 #[.slice ad1 la.length c1, .slice ad2 lb.length c2] w fun e w' => e = .returned (.tuple #[.bool (inst a0 b0), .bool true]) ∧ Below w.heap.size w w' := by
  have hga : goodT la = true := by unfold goodT; rw [hA]; rfl
  have hgb : goodT lb = true := by unfold goodT; rw [hBt]; rfl
  have HG1 := hide (implGoodT_any ad1 c1 la w hl1 h1)
  have HG2 := hide (fun (w' : World) (hb : Below w.heap.size w w') => implGoodT_any ad2 c2 lb w' hl2 (h2.below hb))
  rw [hga] at HG1
  rw [hgb] at HG2
  obtain ⟨t1, t2, t3, t4, -⟩ := treeT_flat hA
  obtain ⟨s1, s2, s3, s4, -⟩ := treeT_flat hBt
  obtain ⟨b, hRb⟩ := CRowB.of h1
  have HRb := hide hRb
  have H2 := hide h2
  have T1 := hide t1
  have S1 := hide s1
  have T2 := hide t2
  have S2 := hide s2
  have T3 := hide t3
  have S3 := hide s3
  clear hga hgb hA hBt h1 h2 hRb t1 s1 t2 s2 t3 s3
  obtain ⟨G, hG⟩ : ∃ G, G = inst a0 b0 := ⟨_, rfl⟩
  rw [← hG]
  have HG0 := hide hG
  clear hG
  have hmm := @run_makeMap Try.prog
  go_enter Try.func23, Try.ntmps23
  go_wp2_with fail
  refine HG1.out.mono ?_
  rintro e w1 ⟨rfl, hb1⟩
  go_wp2_with fail
  refine (HG2.out _ hb1).mono ?_
  rintro e w2 ⟨rfl, hb2⟩
  have hB2 : Below w.heap.size w w2 := hb1.trans (hb2.mono hb1.size)
  clear hb2 hb1 HG1 HG2
  go_wp2_with fail
  clear hmm
  have hB3 : Below w.heap.size w (w2.alloc (.map #[] 0)) := hB2.alloc hB2.size _
  have HS3 : Hid (SM w (w2.alloc (.map #[] 0)) w2.heap.size b 0 noS) := hide (SM.made w w2 b)
  have hB2s := hB2.size
  obtain ⟨w3, hw3⟩ : ∃ w3, w3 = w2.alloc (.map #[] 0) := ⟨_, rfl⟩
  rw [← hw3] at hB3 HS3 ⊢
  clear hw3 hB2
  go_loopw [7, 25] (fun v7 i w' => ∃ j : Nat, j ≤ lb.length ∧ i = .int .i64 j ∧ InsAt w w' lb w2.heap.size b G j v7) (fun _ i _ => lb.length - (intOf i).toNat)
  case atStart =>
    refine ⟨0, by omega, rfl, a0, b0, noS, ad1, c1, by rw [List.drop_zero]; exact S1.out, by rw [T3.out, S3.out], T2.out, S2.out, by rw [← T1.out]; exact t4, by rw [← T1.out], by rw [← T1.out]; exact hc1, by rw [← T1.out]; exact HRb.out, HS3.out, HG0.out, hB3, hB2s⟩
  case round =>
    obtain ⟨j, hj, rfl, aa, bb, σ, adr, cr, hdr, hlen, haok, hbok, ha60, rfl, hcr, hrow, hsm, hg, hB, hBw⟩ := hrel
    clear HS3 hB3
    have HRow := hide hrow
    have HSM := hide hsm
    have HGG := hide hg
    have HDr := hide hdr
    clear hrow hsm hg hdr
    cases bb with
    | nil =>
      obtain rfl : aa = .nil := F.len_0 (by rw [hlen]; rfl)
      have hje : j = lb.length := by
        have := congrArg List.length HDr.out
        simp [F.flat] at this; omega
      subst hje
      have hgt : G = true := by rw [HGG.out]; rfl
      subst hgt
      clear HGG HDr HRow HSM hlen haok hbok HG0
      go_wp2_with fail
      exact bodyPost_ret (v := .tuple #[.bool true, .bool true]) (by simp [results, Try.results23, go_sem]) rfl ⟨rfl, hB⟩
    | cons y kb rb =>
      cases aa with
      | nil => simp [F.len] at hlen
      | cons x ka ra =>
        obtain ⟨gx, lx, okx, okra⟩ : goodC x = true ∧ ka.len = ar x.k ∧ ka.ok ∧ ra.ok := haok
        obtain ⟨gy, ly, oky, okrb⟩ : goodC y = true ∧ kb.len = ar y.k ∧ kb.ok ∧ rb.ok := hbok
        have hlen2 : ra.len = rb.len := by simpa [F.len] using hlen
        have hjd := HDr.out
        have hfl : (F.cons y kb rb).flat = y :: (kb.flat ++ rb.flat) := rfl
        rw [hfl] at hjd
        have hlt : j < lb.length := by
          rcases Nat.lt_or_ge j lb.length with h | h
          · exact h
          · rw [List.drop_eq_nil_of_le h] at hjd; cases hjd
        have hlt' : (j : Int) < (lb.length : Int) := by omega
        rw [List.drop_eq_getElem_cons hlt] at hjd
        simp only [List.cons.injEq] at hjd
        obtain ⟨hy, hjd2⟩ := hjd
        obtain ⟨bb, ob, rfl, hbb, p0, p1⟩ := H2.out.tok hB hlt
        rw [hy] at p0 p1
        have HD2 := hide hjd2
        obtain ⟨o, rfl, hRA⟩ : ∃ o, adr = some ⟨b, o, none⟩ ∧ CRowAt w b o (x :: (ka.flat ++ ra.flat)) := by
          rcases HRow.out with h | h
          · cases h
          · exact h
        have hbl := hRA.1
        obtain ⟨q0, q1⟩ := hRA.2 0 (by simp)
        simp only [Nat.zero_mul, Nat.add_zero, List.getElem_cons_zero] at q0 q1
        have r0 := (hB.cell (p := ⟨b, o, none⟩) hbl).trans q0
        have r1 := (hB.cell (p := ⟨b, o + 1, none⟩) hbl).trans q1
        have HRA := hide hRA
        have HFl : Hid ((F.cons x ka ra).flat.length = ka.flat.length + ra.flat.length + 1) := hide (by simp [F.flat])
        have HMt := hide (mtF_cons x ka ra y kb rb σ)
        rw [HMt.out] at HGG
        obtain ⟨AL, hAL⟩ : ∃ AL, AL = (F.cons x ka ra).flat.length := ⟨_, rfl⟩
        rw [← hAL] at HFl hcr ha60 ⊢
        clear hAL hy hjd2 hfl hRA q0 q1 HDr HRow HMt hlen HG0
        have hALc : (AL : Int) ≤ (cr : Int) := by omega
        have hAL1 : (1 : Int) ≤ (AL : Int) := by have := HFl.out; omega
        have hAL0 : (0 : Int) < (AL : Int) := by omega
        have hcr1 : (1 : Int) ≤ (cr : Int) := by omega
        have hszr := hB.size
        have hbwr : b < wr.heap.size := by omega
        have hn1 : ¬ wr.heap.size = b := by omega
        by_cases hyk : y.k = 1
        · obtain rfl : kb = .nil := F.len_0 (by rw [ly, hyk]; rfl)
          have hy30 := good_v gy hyk
          have hkey := keyN hy30.1 hy30.2
          have hGr : G = ((bind1 σ y.n (x :: ka.flat)).bind (mtF ra rb)).isSome := by rw [HGG.out]; unfold mt1; rw [if_pos hyk]
          clear HGG
          have hszl : sz (x :: (ka.flat ++ ra.flat)) 1 0 = some (ka.flat.length + 1) := by
            have h := sz_flat (.cons x ka .nil) ra.flat 0 0 ⟨gx, lx, okx, trivial⟩
            simp only [F.flat, F.len, List.append_nil, Nat.zero_add, List.cons_append, List.length_cons, sz_0] at h
            exact h
          have hrl : (x :: (ka.flat ++ ra.flat)).length = AL := by have := HFl.out; simp; omega
          have HCut := hide (fun (w' : World) (hb : Below w.heap.size w w') => cutTypeAhead_any b o cr (x :: (ka.flat ++ ra.flat)) (ka.flat.length + 1) w' (by rw [hrl]; omega) (by rw [hrl]; omega) hszl (by simp) ((HRA.out).below hb))
          rw [hrl] at HCut
          have hOne : CRowAt w b o (x :: ka.flat) := rowAt_front (r := ra.flat) (by simpa using HRA.out)
          have hRest : ∀ q, (ka.flat.length + 1 < AL → q = o + (ka.flat.length + 1) * 2) → CRowB w b (some ⟨b, q, none⟩) ra.flat := fun q hq => by
            by_cases h0 : ra.flat = []
            · exact .inl h0
            · have hp : 0 < ra.flat.length := List.length_pos_iff.2 h0
              have e1 := HFl.out
              refine .inr ⟨q, rfl, ?_⟩
              rw [hq (by omega)]
              have := HRA.out.drop (ka.flat.length + 1)
              simpa using this
          have HOne := hide hOne
          have HRest := hide hRest
          have HGr := hide hGr
          clear hOne hRest hGr hszl
          obtain ⟨one, hone⟩ : ∃ one, one = x :: ka.flat := ⟨_, rfl⟩
          have hon : ka.flat.length + 1 = one.length := by rw [hone]; simp
          rw [← hone] at HOne HGr
          rw [hon] at HCut HRest
          have HAl : Hid (AL = one.length + ra.flat.length) := hide (by have := HFl.out; omega)
          have HNext : Hid (∀ (σ' : Sg), G = (mtF ra rb σ').isSome → ∀ w', SM w w' w2.heap.size b (j + 1) σ' → Below w.heap.size w w' → ∀ v7 q, (one.length < AL → q = o + one.length * 2) → v7 = .slice (some ⟨b, q, none⟩) (AL - one.length) (cr - one.length) → InsAt w w' lb w2.heap.size b G (j + 1) v7) := hide (fun σ' hG' w' hsm hBw' v7 q hq hv => by
            have e1 := HAl.out
            exact ⟨ra, rb, σ', some ⟨b, q, none⟩, cr - one.length, by rw [HD2.out]; simp [F.flat], hlen2, okra, okrb, by omega, by rw [hv]; congr 1; omega, by omega, HRest.out q hq, hsm, hG', hBw', by omega⟩)
          obtain ⟨D, hown, hI, hhas, hat⟩ := HSM.out
          clear HSM HRest HD2 hrl
          have hone60 : one.length ≤ 60 := by have := HAl.out; omega
          obtain ⟨yk, yn⟩ := y
          simp only at *
          subst hyk
          have HI := hide hI
          have HHas := hide hhas
          have HAt := hide hat
          clear hI hhas hat gx lx okx okra gy ly oky okrb hone hon r0 r1
          cases hs : σ yn with
          | none =>
            have hh : Maps.has D (.int .i64 yn) = false := by rw [HHas.out, hs]; rfl
            have hG2 : G = (mtF ra rb (upd σ yn one)).isSome := by rw [HGr.out]; unfold bind1; rw [hs]; rfl
            have HG2 := hide hG2
            clear hG2 HGr hs
            go_wp2_with fail
            refine Calls.mono (HCut.out _ (hB.alloc hB.size _)) ?_
            rintro e w5 ⟨q, rfl, hq, hb5⟩
            have HQ := hide hq
            have hB5 : Below w.heap.size w w5 := (hB.alloc hB.size _).trans (hb5.mono (by simp; omega))
            have c1 : w5.cell? ⟨wr.heap.size, 1, none⟩ = some (.int .i64 yn) := by rw [hb5.cell (p := ⟨wr.heap.size, 1, none⟩) (by simp), cell_of_blk (heap_alloc_new wr _)]; rfl
            have hown5 : w5.ownsMap Try.prog 3 rdS w2.heap.size j D := (hown.alloc _).kept (row := none) ⟨hb5.os, hb5.tape, hb5.output, hb5.size, fun k hk _ => hb5.block k hk⟩ (by simp)
            clear hq hb5 HCut
            go_wp2_with (first | (at_lookup; refine look_none rfl _ _ 91 rfl 3 33 lawN Try.underlying91 (zeroS _) w2.heap.size j D rfl hown5 _ _ rfl hkey hh ?_) | (at_mapUpdate; refine wpList_mapUpdate_own _ rfl _ _ _ 91 rfl 3 33 lawN Try.underlying91 rdS w2.heap.size j D rfl hown5 (by unfold maxLen; omega) _ _ _ rfl rfl hkey _ [] (rdS_mk _ _ _ _) ?_; intro w6 hown6 hgrow6) | fail)
            have hB6 : Below w.heap.size w w6 := hB5.grown hgrow6 hB5.size (fun k hk => by simp at hk; omega)
            exact ⟨⟨j + 1, by omega, by go_num, HNext.out _ HG2.out _ (SM.put HI.out HHas.out HAt.out hown6 HOne.out hone60) hB6 _ _ HQ.out rfl⟩, by simp [intOf]; omega⟩
          | some u =>
            obtain ⟨ou, cu, hatu, hRu, hu60⟩ := HAt.out yn u hs
            have hh : Maps.has D (.int .i64 yn) = true := by rw [HHas.out, hs]; rfl
            have HEq := hide (fun (w' : World) (hb : Below w.heap.size w w') => equalT_any (some ⟨b, ou, none⟩) (some ⟨b, o, none⟩) cu cr u one w' (by omega) (by omega) (.inr ⟨b, ou, rfl, hRu.below hb⟩) (.inr ⟨b, o, rfl, HOne.out.below hb⟩))
            have hG2 : G = ((if sameC u one = true then some σ else none).bind (mtF ra rb)).isSome := by rw [HGr.out]; unfold bind1; rw [hs]
            cases hsame : sameC u one with
            | true =>
              rw [hsame] at hG2 HEq
              have hue := (sameC_iff _ _).1 hsame
              have hG3 : G = (mtF ra rb (upd σ yn one)).isSome := by rw [hG2, upd_same (by rw [hs, hue])]; rfl
              have HG2 := hide hG3
              clear hG2 hG3 HGr hs hsame hue hRu
              go_wp2_with fail
              refine Calls.mono (HCut.out _ (hB.alloc hB.size _)) ?_
              rintro e w5 ⟨q, rfl, hq, hb5⟩
              have HQ := hide hq
              have hB5 : Below w.heap.size w w5 := (hB.alloc hB.size _).trans (hb5.mono (by simp; omega))
              have c1 : w5.cell? ⟨wr.heap.size, 1, none⟩ = some (.int .i64 yn) := by rw [hb5.cell (p := ⟨wr.heap.size, 1, none⟩) (by simp), cell_of_blk (heap_alloc_new wr _)]; rfl
              have hown5 : w5.ownsMap Try.prog 3 rdS w2.heap.size j D := (hown.alloc _).kept (row := none) ⟨hb5.os, hb5.tape, hb5.output, hb5.size, fun k hk _ => hb5.block k hk⟩ (by simp)
              have hw5 : wr.heap.size < w5.heap.size := by have := hb5.size; simp at this; omega
              clear hq hb5 HCut
              go_wp2_with (first | (at_lookup; refine look_some rfl _ _ 91 rfl 3 33 lawN Try.underlying91 (zeroS _) w2.heap.size j D rfl hown5 _ _ rfl hkey b ou u.length cu hatu hh ?_) | fail)
              refine (HEq.out _ hB5).mono ?_
              rintro e w6 ⟨rfl, hb6⟩
              have hB6 : Below w.heap.size w w6 := hB5.trans (hb6.mono hB5.size)
              have c6 : w6.cell? ⟨wr.heap.size, 1, none⟩ = some (.int .i64 yn) := (hb6.cell (p := ⟨wr.heap.size, 1, none⟩) hw5).trans c1
              have hown6 : w6.ownsMap Try.prog 3 rdS w2.heap.size j D := hown5.kept (row := none) ⟨hb6.os, hb6.tape, hb6.output, hb6.size, fun k hk _ => hb6.block k hk⟩ (by simp)
              clear hb6 HEq c1 hown5
              go_wp2_with (first | (at_mapUpdate; refine wpList_mapUpdate_own _ rfl _ _ _ 91 rfl 3 33 lawN Try.underlying91 rdS w2.heap.size j D rfl hown6 (by unfold maxLen; omega) _ _ _ rfl rfl hkey _ [] (rdS_mk _ _ _ _) ?_; intro w7 hown7 hgrow7) | fail)
              have hB7 : Below w.heap.size w w7 := hB6.grown hgrow7 hB6.size (fun k hk => by simp at hk; omega)
              exact ⟨⟨j + 1, by omega, by go_num, HNext.out _ HG2.out _ (SM.put HI.out HHas.out HAt.out hown7 HOne.out hone60) hB7 _ _ HQ.out rfl⟩, by simp [intOf]; omega⟩
            | false =>
              rw [hsame] at hG2 HEq
              have hGf : G = false := by rw [hG2]; rfl
              subst hGf
              clear hG2 HGr hs hsame hRu HNext
              go_wp2_with fail
              refine Calls.mono (HCut.out _ (hB.alloc hB.size _)) ?_
              rintro e w5 ⟨q, rfl, hq, hb5⟩
              have hB5 : Below w.heap.size w w5 := (hB.alloc hB.size _).trans (hb5.mono (by simp; omega))
              have c1 : w5.cell? ⟨wr.heap.size, 1, none⟩ = some (.int .i64 yn) := by rw [hb5.cell (p := ⟨wr.heap.size, 1, none⟩) (by simp), cell_of_blk (heap_alloc_new wr _)]; rfl
              have hown5 : w5.ownsMap Try.prog 3 rdS w2.heap.size j D := (hown.alloc _).kept (row := none) ⟨hb5.os, hb5.tape, hb5.output, hb5.size, fun k hk _ => hb5.block k hk⟩ (by simp)
              clear hq hb5 HCut
              go_wp2_with (first | (at_lookup; refine look_some rfl _ _ 91 rfl 3 33 lawN Try.underlying91 (zeroS _) w2.heap.size j D rfl hown5 _ _ rfl hkey b ou u.length cu hatu hh ?_) | fail)
              refine (HEq.out _ hB5).mono ?_
              rintro e w6 ⟨rfl, hb6⟩
              have hB6 : Below w.heap.size w w6 := hB5.trans (hb6.mono hB5.size)
              clear hb6 HEq c1 hown5
              go_wp2_with fail
              exact bodyPost_ret (v := .tuple #[.bool false, .bool true]) (by simp [results, Try.results23, go_sem]) rfl ⟨rfl, hB6⟩
        · have hykb : (y.k == 1) = false := by simpa using hyk
          have hykb' : (y.k != 1) = true := by simp [hyk]
          have hyn := good_k gy hyk
          by_cases hxk : x.k = y.k
          · have hxn := good_k gx (by rw [hxk]; exact hyk)
            have hnn : x.n = y.n := by rw [hxn.1, hyn.1]
            rw [hxk] at r0
            rw [hnn] at r1
            have hGr : G = (mtF (ka.app ra) (kb.app rb) σ).isSome := by
              rw [HGG.out, mtF_app ka kb ra rb σ (by rw [lx, ly, hxk])]
              unfold mt1
              rw [if_neg hyk, if_pos hxk]
            have HGr := hide hGr
            clear hGr HGG
            obtain ⟨ad1', had1, hrow1⟩ := rowB_tail (c := cr) HRA.out (by have := HFl.out; simp; omega)
            have HRow1 := hide hrow1
            clear hrow1 hyn hxn
            have HNext : Hid (∀ w', SM w w' w2.heap.size b (j + 1) σ → Below w.heap.size w w' → ∀ v7, v7 = .slice ad1' (AL - 1) (cr - 1) → InsAt w w' lb w2.heap.size b G (j + 1) v7) := hide (fun w' hsm hBw' v7 hv => by
              have e1 := HFl.out
              refine ⟨ka.app ra, kb.app rb, σ, ad1', cr - 1, by rw [F.app_flat]; exact HD2.out, by rw [F.app_len, F.app_len, lx, ly, hxk, hlen2], (F.app_ok _ _).2 ⟨okx, okra⟩, (F.app_ok _ _).2 ⟨oky, okrb⟩, by rw [F.app_flat, List.length_append]; omega, by rw [hv, F.app_flat, List.length_append]; congr 1; omega, by rw [F.app_flat, List.length_append]; omega, by rw [F.app_flat]; exact HRow1.out, hsm, HGr.out, hBw', by omega⟩)
            clear HRow1 HGr HD2 HRA
            have HSa := hide (fun (nq : Nat) => (HSM.out.kept (w' := (wr.alloc (.cells #[.int .i64 y.k, .int .i64 y.n] 67)).drewN nq) (row := none) ⟨rfl, rfl, rfl, (World.grownBy_alloc wr _ none).size, fun k hk _ => heap_alloc_old _ _ hk⟩ (by simp)).more)
            clear HSM
            rcases had1 with ⟨hc1', had1⟩ | ⟨hc1', had1⟩
            · subst hc1'
              have hAL' : AL = 1 := by omega
              subst hAL'
              subst had1
              go_wp2_with fail
              go_quiet (fail)
              go_wp2_with fail
              exact ⟨⟨j + 1, by omega, by go_num, HNext.out _ (HSa.out _) ⟨hB.os, hB.tape, hB.output, by simp; omega, fun k hk => (heap_alloc_old _ _ (by omega)).trans (hB.block k hk)⟩ _ rfl⟩, by simp [intOf]; omega⟩
            · have hc2' : ¬ (cr : Int) - 1 = 0 := by omega
              have hc3' : ¬ cr - 1 = 0 := by omega
              subst had1
              go_wp2_with fail
              go_quiet (fail)
              go_wp2_with fail
              exact ⟨⟨j + 1, by omega, by go_num, HNext.out _ (HSa.out _) ⟨hB.os, hB.tape, hB.output, by simp; omega, fun k hk => (heap_alloc_old _ _ (by omega)).trans (hB.block k hk)⟩ _ rfl⟩, by simp [intOf]; omega⟩
          · have hGf : G = false := by
              rw [HGG.out]
              unfold mt1
              rw [if_neg hyk, if_neg hxk]
              rfl
            subst hGf
            have hxb : (x.k == y.k) = false := by simpa using hxk
            clear HGG HSM HRA HD2 hyn
            go_wp2_with fail
            go_quiet (fail)
            go_wp2_with fail
            exact bodyPost_ret (v := .tuple #[.bool false, .bool true]) (by simp [results, Try.results23, go_sem]) rfl ⟨rfl, ⟨hB.os, hB.tape, hB.output, by simp; omega, fun k hk => (heap_alloc_old _ _ (by omega)).trans (hB.block k hk)⟩⟩

set_option maxRecDepth 20000 in
set_option maxHeartbeats 2000000 in
theorem implInst_any (ad1 ad2 : Option Addr) (c1 c2 : Nat) (la lb : List Cc) (w : World) (hl1 : la.length ≤ 1048576) (hl2 : lb.length ≤ 1048576) (hc1 : la.length ≤ c1) (h1 : CRow w ad1 la) (h2 : CRow w ad2 lb) :
    Calls Try.prog 23 #[.slice ad1 la.length c1, .slice ad2 lb.length c2] w fun e w' => e = .returned (.tuple #[.bool (insR la lb), .bool (goodT la && goodT lb)]) ∧ Below w.heap.size w w' := by
  cases hA : treeT la with
  | none =>
    have hga : goodT la = false := by unfold goodT; rw [hA]; rfl
    have hr : insR la lb = false := by unfold insR; rw [hA]
    have HG1 := hide (implGoodT_any ad1 c1 la w hl1 h1)
    rw [hga] at HG1
    rw [hga, hr, Bool.false_and]
    clear hA hga hr h1 h2
    go_enter Try.func23, Try.ntmps23
    go_wp2_with fail
    refine HG1.out.mono ?_
    rintro e w1 ⟨rfl, hb1⟩
    go_wp2_with fail
    exact bodyPost_ret (v := .tuple #[.bool false, .bool false]) (by simp [results, Try.results23, go_sem]) rfl ⟨rfl, hb1⟩
  | some a0 =>
    have hga : goodT la = true := by unfold goodT; rw [hA]; rfl
    cases hBt : treeT lb with
    | none =>
      have hgb : goodT lb = false := by unfold goodT; rw [hBt]; rfl
      have hr : insR la lb = false := by unfold insR; rw [hA, hBt]
      have HG1 := hide (implGoodT_any ad1 c1 la w hl1 h1)
      have HG2 := hide (fun (w' : World) (hb : Below w.heap.size w w') => implGoodT_any ad2 c2 lb w' hl2 (h2.below hb))
      rw [hga] at HG1
      rw [hgb] at HG2
      rw [hga, hgb, hr, Bool.true_and]
      clear hA hga hgb hr h1 h2 hBt
      go_enter Try.func23, Try.ntmps23
      go_wp2_with fail
      refine HG1.out.mono ?_
      rintro e w1 ⟨rfl, hb1⟩
      go_wp2_with fail
      refine (HG2.out _ hb1).mono ?_
      rintro e w2 ⟨rfl, hb2⟩
      go_wp2_with fail
      exact bodyPost_ret (v := .tuple #[.bool false, .bool false]) (by simp [results, Try.results23, go_sem]) rfl ⟨rfl, hb1.trans (hb2.mono hb1.size)⟩
    | some b0 =>
      have hgb : goodT lb = true := by unfold goodT; rw [hBt]; rfl
      have hr : insR la lb = inst a0 b0 := by unfold insR; rw [hA, hBt]
      rw [hga, hgb, hr]
      exact implInst_good ad1 ad2 c1 c2 la lb a0 b0 w hl1 hl2 hc1 h1 h2 hA hBt
end Go.Proofs.Ytjffignbiabmaab.Y

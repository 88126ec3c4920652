/-
  Numbers of expressions: contracts of both EvalExpr. Conditions: the program's table of signs reads as its text lays it; rows of at most 1048576 parts with texts of at most 1048576 bytes.
-/
import Derived.Test.YtjffignbiabmaaaDoorEv4
import Derived.Test.YtjffignbiabmaaaDoorEv6
import Derived.Test.YtjffignbiabmaaaDoorDoorS
namespace Go.Proofs.YtjffignbiabmaaaDoor.W
open Go.ChangeShapes Go.WideShapes Go.ChangeAt Go.RowKit
set_option linter.unusedVariables false

theorem lookN_0 : ∀ (ns : List ByteArray) (vs : List Int) (t : ByteArray), (lookN ns vs t).2 ≠ 0 → (lookN ns vs t).1 = 0
  | [], _, _, _ => rfl
  | _ :: _, [], _, _ => rfl
  | n :: ns, v :: vs, t, h => by
    unfold lookN at h ⊢
    split
    · rename_i e; rw [if_pos e] at h; exact absurd rfl h
    · rename_i e; rw [if_neg e] at h; exact lookN_0 ns vs t h
theorem bd_0 (n : Int) (h : (bd n).2 ≠ 0) : (bd n).1 = 0 := by
  unfold bd at h ⊢
  split
  · rename_i e; rw [if_pos e] at h; exact absurd rfl h
  · rfl
theorem do2_0 (s : List UInt8) (a b : Int) (h : (do2 s a b).2 ≠ 0) : (do2 s a b).1 = 0 := by
  unfold do2 at h ⊢
  repeat' split
  all_goals first
    | rfl
    | (simp_all; done)
    | (apply bd_0; simp_all)
theorem ev_0 (ns : List ByteArray) (vs : List Int) (e : E) (h : (ev ns vs e).2 ≠ 0) : (ev ns vs e).1 = 0 := by
  cases e with
  | leaf x =>
    unfold ev at h ⊢
    split
    · rename_i e; rw [if_pos e] at h; exact absurd rfl h
    · rename_i e; rw [if_neg e] at h; exact lookN_0 _ _ _ h
  | one x a =>
    unfold ev at h ⊢
    repeat' split
    all_goals first
      | rfl
      | (simp_all; done)
  | two x a b =>
    unfold ev at h ⊢
    repeat' split
    all_goals first
      | rfl
      | (simp_all; done)
      | (apply do2_0; simp_all)

/-- What EvalExpr tells. -/
def evT (l : List Xx) (ns : List ByteArray) (vs : List Int) : Option (Int × Int) := if ns.length ≤ 20 ∧ ns.length = vs.length ∧ (∀ v ∈ vs, bdB v = true) then (treeE l).map (ev ns vs) else none
def evV : Option (Int × Int) → Value
  | none => .tuple #[.int .i64 0, .int .i64 0, .bool false]
  | some (n, c) => .tuple #[.int .i64 n, .int .i64 c, .bool true]
theorem evT_bad (l : List Xx) (ns : List ByteArray) (vs : List Int) (h : treeE l = none) : evT l ns vs = none := by unfold evT; rw [h]; split <;> rfl
theorem evT_no (l : List Xx) (ns : List ByteArray) (vs : List Int) (h : ¬ (ns.length ≤ 20 ∧ ns.length = vs.length ∧ (∀ v ∈ vs, bdB v = true))) : evT l ns vs = none := if_neg h
theorem evT_yes (l : List Xx) (ns : List ByteArray) (vs : List Int) (e : E) (h1 : ns.length ≤ 20) (h2 : ns.length = vs.length) (h3 : ∀ v ∈ vs, bdB v = true) (h : treeE l = some e) : evT l ns vs = some (ev ns vs e) := by unfold evT; rw [if_pos ⟨h1, h2, h3⟩, h]; rfl

set_option maxRecDepth 20000 in
set_option maxHeartbeats 4000000 in
theorem implEval_any (ade adn adv : Option Addr) (ce cn cv : Nat) (l : List Xx) (ns : List ByteArray) (vs : List Int) (w : World) (hl : l.length ≤ 1048576) (hs : ∀ x ∈ l, x.t.size ≤ 1048576) (hR : Row w ade l) (hN : CR w adn (ns.map Value.string)) (hV : CR w adv (vs.map (Value.int .i64))) (hnl : ns.length ≤ 1048576) (hvl : vs.length ≤ 1048576) (ht : SgTab w) :
    Calls Tryd.prog 27 #[.slice ade l.length ce, .slice adn ns.length cn, .slice adv vs.length cv] w fun e w' => e = .returned (evV (evT l ns vs)) ∧ Below w.heap.size w w' := by
  have HG := hide (implGoodE_any ade ce l w hl hs hR ht)
  have hgt := goodE_tree l
  cases hT : treeE l with
  | none =>
    have hg : goodE l = false := by rw [hgt, hT]; rfl
    rw [hg] at HG
    rw [evT_bad l ns vs hT]
    clear hT hg hgt hR hN hV hs ht
    go_enter Tryd.func27, Tryd.ntmps27
    go_wp2_with fail
    refine HG.out.mono ?_
    rintro e w1 ⟨rfl, hb1⟩
    go_wp2_with fail
    exact bodyPost_ret (v := .tuple #[.int .i64 0, .int .i64 0, .bool false]) (by simp [results, Tryd.results27, go_sem]) rfl ⟨rfl, hb1⟩
  | some t =>
    have hg : goodE l = true := by rw [hgt, hT]; rfl
    rw [hg] at HG
    by_cases h20 : ns.length ≤ 20
    · by_cases heq : ns.length = vs.length
      · have h20' : ¬ (20 : Int) < (ns.length : Int) := by omega
        have HTr := hide hT
        have HV := hide hV
        have HN := hide hN
        have HRw := hide hR
        have HS := hide hs
        obtain ⟨R, hRR⟩ : ∃ R, R = evT l ns vs := ⟨_, rfl⟩
        rw [← hRR]
        have HRR := hide hRR
        have HEq := hide heq
        clear hT hg hgt hR hN hV hs ht hRR
        rw [heq] at h20 h20'
        have HL : Hid ((.slice adn ns.length cn : Value) = .slice adn vs.length cn) := hide (by rw [heq])
        rw [HL.out]
        clear heq HL
        go_enter Tryd.func27, Tryd.ntmps27
        go_wp2_with fail
        refine HG.out.mono ?_
        rintro e w1 ⟨rfl, hb1⟩
        go_wp2_with fail
        go_loopw [31] (fun i w' => ∃ j : Nat, j ≤ vs.length ∧ i = .int .i64 j ∧ (∀ q (h : q < vs.length), q < j → bdB vs[q] = true) ∧ w' = w1) (fun i _ => vs.length - (intOf i).toNat)
        case atStart => exact ⟨0, by omega, rfl, by intros; omega, rfl⟩
        case round =>
          obtain ⟨j, hj, rfl, hall, rfl⟩ := hrel
          have HA := hide hall
          clear hall
          by_cases hlt : j < vs.length
          · have hlt' : (j : Int) < (vs.length : Int) := by omega
            obtain ⟨b, o, rfl, hb, q⟩ := (HV.out.below hb1).at (i := j) (by simpa using hlt)
            rw [List.getElem_map] at q
            have hmem := List.getElem_mem hlt
            obtain ⟨V, hVv⟩ : ∃ V, V = vs[j] := ⟨_, rfl⟩
            have HVv := hide hVv
            rw [← hVv] at q hmem
            have HMm := hide hmem
            clear hVv hmem
            have HIB := hide (inBound_any V)
            cases hbd : bdB V with
            | true =>
              rw [hbd] at HIB
              have HA2 : Hid (∀ q (h : q < vs.length), q < j + 1 → bdB vs[q] = true) := hide (fun q h hq => by
                by_cases e : q = j
                · subst e; rw [← HVv.out]; exact hbd
                · exact HA.out q h (by omega))
              clear hbd
              go_wp2_with fail
              refine (HIB.out _).mono ?_
              rintro e w2 ⟨rfl, rfl⟩
              go_wp2_with fail
              exact ⟨⟨j + 1, by omega, by go_num, HA2.out, trivial⟩, by simp [intOf]; omega⟩
            | false =>
              rw [hbd] at HIB
              have hRe : R = none := by
                rw [HRR.out]
                refine evT_no _ _ _ (fun h => ?_)
                have := h.2.2 V HMm.out
                rw [hbd] at this; cases this
              subst hRe
              clear hbd HRR
              go_wp2_with fail
              refine (HIB.out _).mono ?_
              rintro e w2 ⟨rfl, rfl⟩
              go_wp2_with fail
              exact bodyPost_ret (v := .tuple #[.int .i64 0, .int .i64 0, .bool false]) (by simp [results, Tryd.results27, go_sem]) rfl ⟨rfl, hb1⟩
          · obtain rfl : j = vs.length := by omega
            have hv : ∀ v ∈ vs, bdB v = true := fun v hv => by
              obtain ⟨q, hq, e⟩ := List.getElem_of_mem hv
              rw [← e]; exact HA.out q hq hq
            have hRe : R = some (ev ns vs t) := by rw [HRR.out]; exact evT_yes _ _ _ _ (by have := HEq.out; omega) HEq.out hv HTr.out
            obtain ⟨u1, u2, u3, -⟩ := treeE_flat HTr.out
            have h0 := ev_0 ns vs t
            have HC := hide (fun (W : World) (g : Nat) (hE : EvS W g ade adn adv ce cn cv l ns vs) => numberAt_any g ade adn adv ce cn cv l ns vs hl hv (by have := HEq.out; omega) HEq.out t u2 0 [] W hE (by rw [List.drop_zero, List.append_nil]; exact u1))
            unfold NOut at HC
            obtain ⟨E1, hE1⟩ : ∃ E1, E1 = ev ns vs t := ⟨_, rfl⟩
            rw [← hE1] at hRe h0 HC
            subst hRe
            obtain ⟨en, ec⟩ := E1
            simp only at h0 HC
            have H0 := hide h0
            have HES : Hid (EvS (wr.alloc (.cells #[.slice ade l.length ce, .slice adn vs.length cn, .slice adv vs.length cv] 108)) wr.heap.size ade adn adv ce cn cv l ns vs) := hide (by
              have hB2 : Below w.heap.size w (wr.alloc (.cells #[.slice ade l.length ce, .slice adn vs.length cn, .slice adv vs.length cv] 108)) := hb1.alloc hb1.size _
              have hc := fun i => cell_of_blk (heap_alloc_new wr (.cells #[.slice ade l.length ce, .slice adn vs.length cn, .slice adv vs.length cv] 108)) i
              exact ⟨by simp, (hc 0).trans rfl, by rw [hc 1, HEq.out]; rfl, (hc 2).trans rfl, HRw.out.below hB2, HN.out.below hB2, HV.out.below hB2⟩)
            have HC1 := hide (HC.out _ _ HES.out)
            clear HRR u1 u2 u3 h0 hE1 HC HES hv
            go_wp2_with fail
            refine Calls.mono HC1.out ?_
            rintro e w2 ⟨⟨n2, c2, q2, rfl, rfl, h2⟩, hb2⟩
            have hB2 : Below w.heap.size w w2 := (hb1.alloc hb1.size _).trans (hb2.mono (by have := hb1.size; simp; omega))
            clear hb2 HC1
            by_cases hcc : c2 = 0
            · subst hcc
              obtain ⟨rfl, -⟩ := h2 rfl
              clear h2 H0
              go_wp2_with fail
              exact bodyPost_ret (v := .tuple #[.int .i64 n2, .int .i64 0, .bool true]) (by simp [results, Tryd.results27, go_sem]) rfl ⟨rfl, hB2⟩
            · have hen := H0.out hcc
              subst hen
              have hcb : (c2 == 0) = false := by simpa using hcc
              have hcb' : (c2 != 0) = true := by simp [hcc]
              clear h2 H0
              go_wp2_with fail
              exact bodyPost_ret (v := .tuple #[.int .i64 0, .int .i64 c2, .bool true]) (by simp [results, Tryd.results27, go_sem]) rfl ⟨rfl, hB2⟩
      · rw [evT_no l ns vs (fun h => heq h.2.1)]
        have h20' : ¬ (20 : Int) < (ns.length : Int) := by omega
        have hne : ((ns.length : Int) == (vs.length : Int)) = false := by simp; omega
        have hne' : ((ns.length : Int) != (vs.length : Int)) = true := by simp; omega
        have hne2 : ¬ (ns.length : Int) = (vs.length : Int) := by omega
        clear hT hg hgt hR hN hV hs ht
        go_enter Tryd.func27, Tryd.ntmps27
        go_wp2_with fail
        refine HG.out.mono ?_
        rintro e w1 ⟨rfl, hb1⟩
        go_wp2_with fail
        exact bodyPost_ret (v := .tuple #[.int .i64 0, .int .i64 0, .bool false]) (by simp [results, Tryd.results27, go_sem]) rfl ⟨rfl, hb1⟩
    · rw [evT_no l ns vs (fun h => h20 h.1)]
      have h20' : (20 : Int) < (ns.length : Int) := by omega
      clear hT hg hgt hR hN hV hs ht
      go_enter Tryd.func27, Tryd.ntmps27
      go_wp2_with fail
      refine HG.out.mono ?_
      rintro e w1 ⟨rfl, hb1⟩
      go_wp2_with fail
      exact bodyPost_ret (v := .tuple #[.int .i64 0, .int .i64 0, .bool false]) (by simp [results, Tryd.results27, go_sem]) rfl ⟨rfl, hb1⟩
end Go.Proofs.YtjffignbiabmaaaDoor.W

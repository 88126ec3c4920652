/-
  The program's usedBy and CodeBy: contracts. Conditions: at most 1048576 cells.
-/
import Derived.Test.YtiphcjbmoekkkaaPlF
import Derived.Test.YtiphcjbmoekkkaaPlU
import Derived.Test.YtiphcjbmoekkkaaRwO
namespace Go.Proofs.Ytiphcjbmoekkkaa.L
open Go.Proofs.Ytiphcjbmoekkkaa.W
open Go.ChangeShapes Go.WideShapes Go.ChangeAt Go.RowKit
set_option linter.unusedVariables false

theorem codeOf_any (b o c : Nat) (l : List Cc) (rb ro rn rc : Nat) (R : Nat → Bool) (hl : l.length ≤ 40) (hc : l.length ≤ c) (hrn : l.length ≤ rn) : ∀ s : Tr, CodeGoal ⟨b, o, c⟩ l ⟨rb, ro, rn, rc⟩ R s
  | .ld n => codeOf_leaf b o c l rb ro rn rc R n hl
  | .op k1 ta tb => codeOf_node b o c l rb ro rn rc R k1 ta tb hl hc hrn (codeOf_any b o c l rb ro rn rc R hl hc hrn ta) (codeOf_any b o c l rb ro rn rc R hl hc hrn tb)
theorem cd_to (R : Nat → Bool) : ∀ (s : Tr) (i p : Nat), ∀ x ∈ s.cd R i p, ∃ q : Nat, x.to = (q : Int) ∧ q ≤ p + s.flat.length
  | .ld n, i, p, x, hx => by
    simp only [Tr.cd, List.mem_singleton] at hx
    subst hx
    exact ⟨p, rfl, by omega⟩
  | .op k1 ta tb, i, p, x, hx => by
    have hl : (Tr.op k1 ta tb).flat.length = 1 + (ta.flat.length + tb.flat.length) := by simp [Tr.flat]; omega
    rw [hl]
    unfold Tr.cd at hx
    split at hx
    · rcases List.mem_append.1 hx with hx | hx
      · rcases List.mem_append.1 hx with hx | hx
        · obtain ⟨q, h1, h2⟩ := cd_to R tb _ _ x hx; exact ⟨q, h1, by omega⟩
        · obtain ⟨q, h1, h2⟩ := cd_to R ta _ _ x hx; exact ⟨q, h1, by omega⟩
      · simp only [List.mem_singleton] at hx
        subst hx
        exact ⟨p, rfl, by omega⟩
    · rcases List.mem_append.1 hx with hx | hx
      · rcases List.mem_append.1 hx with hx | hx
        · obtain ⟨q, h1, h2⟩ := cd_to R ta _ _ x hx; exact ⟨q, h1, by omega⟩
        · obtain ⟨q, h1, h2⟩ := cd_to R tb _ _ x hx; exact ⟨q, h1, by omega⟩
      · simp only [List.mem_singleton] at hx
        subst hx
        exact ⟨p, rfl, by omega⟩

theorem usB_le : ∀ (l : List Cd) (u B : Nat), u ≤ B → (∀ x ∈ l, x.to.toNat + 1 ≤ B) → usB l u ≤ B
  | [], u, B, h, _ => h
  | x :: l, u, B, h, hx => usB_le l _ B (Nat.max_le.2 ⟨h, hx x (by simp)⟩) (fun y hy => hx y (by simp [hy]))

set_option maxHeartbeats 1000000 in
theorem usedBy_any (ad : Option Addr) (c : Nat) (l : List Cd) (w : World) (hl : l.length ≤ 1048576) (h : CdRow w ad l) (ht : ∀ x ∈ l, ∃ q : Nat, x.to = (q : Int) ∧ q ≤ 1000) :
    Calls Try.prog 46 #[.slice ad l.length c] w fun e w' => e = .returned (.int .i64 (usB l 0 : Int)) ∧ Below w.heap.size w w' := by
  have HR := hide h
  have HT := hide ht
  have HBd := hide (fun j => usB_le (l.take j) 0 1001 (by omega) (fun x hx => by obtain ⟨q, h1, h2⟩ := ht x (List.mem_of_mem_take hx); rw [h1]; simp; omega))
  clear h ht
  go_enter Try.func46, Try.ntmps46
  go_wp2_with fail
  go_loopw [3, 8] (fun u i w' => ∃ (j : Nat), j ≤ l.length ∧ u = .int .i64 ((usB (l.take j) 0 : Nat) : Int) ∧ i = .int .i64 j ∧ Below w.heap.size w w') (fun _ i _ => l.length - (intOf i).toNat)
  case atStart => exact ⟨0, by omega, rfl, rfl, Below.refl _ _⟩
  case round =>
    obtain ⟨j, hj, rfl, rfl, hB⟩ := hrel
    by_cases hlt : j < l.length
    · have hlt' : (j : Int) < (l.length : Int) := by omega
      obtain ⟨b, o, rfl, hb, p0, p1, p2, p3, p4⟩ := CdRow.tok HR.out hB hlt
      have hd : l.take (j + 1) = l.take j ++ [l[j]] := by rw [List.take_add_one, List.getElem?_eq_getElem hlt]; rfl
      have hmem : l[j] ∈ l := List.getElem_mem hlt
      obtain ⟨x, hx⟩ : ∃ x, x = l[j] := ⟨_, rfl⟩
      rw [← hx] at p0 p1 p2 p3 p4 hd hmem
      clear hx
      obtain ⟨q, hq, hq2⟩ := HT.out x hmem
      rw [hq] at p1
      have hus : usB (l.take (j + 1)) 0 = max (usB (l.take j) 0) (q + 1) := by rw [hd, usB_app]; simp [usB, hq]
      have hub := HBd.out j
      obtain ⟨U, hU⟩ : ∃ U, U = usB (l.take j) 0 := ⟨_, rfl⟩
      rw [← hU] at hus hub ⊢
      have HUs := hide hus
      have hB1 : ∀ B : Obj, Below w.heap.size w (wr.alloc B) := fun B => hB.alloc hB.size _
      have HB1 := hide hB1
      clear hd hmem hus hU hB1
      go_wp2_with fail
      all_goals exact ⟨⟨j + 1, by omega, by rw [HUs.out]; congr 1; omega, by go_num, HB1.out _⟩, by simp [intOf]; omega⟩
    · obtain rfl : j = l.length := by omega
      go_wp2_with fail
      go_ret
      exact ⟨ret_int (by rw [List.take_length]), hB⟩

def okB (l : List Cc) (rs : List Bool) : Bool := goodT l && decide (rs.length = l.length)
def RB (rs : List Bool) (j : Nat) : Bool := rs[j]?.getD false
noncomputable def cbL (l : List Cc) (rs : List Bool) : List Cd := if okB l rs = true then (trOf l).cd (RB rs) 0 0 else []
noncomputable def cbN (l : List Cc) (rs : List Bool) : Nat := if okB l rs = true then (trOf l).us (RB rs) 0 0 else 0
theorem cb_bad {l : List Cc} {rs : List Bool} (h : okB l rs = false) : cbL l rs = [] ∧ cbN l rs = 0 := by
  unfold cbL cbN
  rw [if_neg (by rw [h]; simp), if_neg (by rw [h]; simp)]
  exact ⟨rfl, rfl⟩
theorem cb_ok {l : List Cc} {rs : List Bool} (h : okB l rs = true) : cbL l rs = (trOf l).cd (RB rs) 0 0 ∧ cbN l rs = (trOf l).us (RB rs) 0 0 ∧ goodT l = true ∧ rs.length = l.length := by
  unfold cbL cbN
  rw [if_pos h, if_pos h]
  unfold okB at h
  simp only [Bool.and_eq_true, decide_eq_true_eq] at h
  exact ⟨rfl, rfl, h.1, h.2⟩

set_option maxRecDepth 20000 in
set_option maxHeartbeats 2000000 in
theorem implCodeBy_any (b o c : Nat) (l : List Cc) (ra : Option Addr) (rc : Nat) (rs : List Bool) (w : World) (hl : l.length ≤ 1048576) (hc : l.length ≤ c) (h : CRow w (some ⟨b, o, none⟩) l) (hrl : rs.length ≤ 1048576) (hr : ORow w ra rs) :
    Calls Try.prog 24 #[.slice (some ⟨b, o, none⟩) l.length c, .slice ra rs.length rc] w fun e w' => ∃ v, e = .returned (.tuple #[v, .int .i64 (cbN l rs : Int), .bool (okB l rs)]) ∧ w'.ownsRow w.heap.size 74 5 v (cbL l rs).length (dv (cbL l rs)) ∧ Below w.heap.size w w' := by
  have HG := hide (implGoodT_any b o c l w hl hc h)
  cases hok : okB l rs with
  | false =>
    rw [(cb_bad hok).1, (cb_bad hok).2]
    have hnil : ∀ w' : World, w'.ownsRow w.heap.size 74 5 (.slice none 0 0) 0 (dv []) := fun w' => World.ownsRow_nil _ _ _ _
    have HN := hide hnil
    cases hg : goodT l with
    | false =>
      rw [hg] at HG
      clear hok h hr hnil
      go_enter Try.func24, Try.ntmps24
      go_wp2_with fail
      refine HG.out.mono ?_
      rintro e w1 ⟨rfl, hb1⟩
      go_wp2_with fail
      exact bodyPost_ret (v := .tuple #[.slice none 0 0, .int .i64 0, .bool false]) (by simp [results, Try.results24, go_sem]) rfl ⟨_, rfl, HN.out _, hb1⟩
    | true =>
      rw [hg] at HG
      have hne : rs.length ≠ l.length := by
        intro e; unfold okB at hok; rw [hg, decide_eq_true e] at hok; cases hok
      have hne' : ¬ (rs.length : Int) = (l.length : Int) := by omega
      clear hok h hr hnil
      go_enter Try.func24, Try.ntmps24
      go_wp2_with fail
      refine HG.out.mono ?_
      rintro e w1 ⟨rfl, hb1⟩
      go_wp2_with fail
      exact bodyPost_ret (v := .tuple #[.slice none 0 0, .int .i64 0, .bool false]) (by simp [results, Try.results24, go_sem]) rfl ⟨_, rfl, HN.out _, hb1⟩
  | true =>
    obtain ⟨e1, e2, hg, hle⟩ := cb_ok hok
    rw [hg] at HG
    obtain ⟨t1, t2, t3, -⟩ := trOf_good hg
    have hpos : 0 < l.length := by rw [t2]; exact (trOf l).flat_pos
    have hrow : CRowAt w b o l := by
      rcases h with h | ⟨b', o', e, h⟩
      · rw [h] at hpos; simp at hpos
      · simp only [Option.some.injEq, Addr.mk.injEq, and_true] at e
        obtain ⟨rfl, rfl⟩ := e
        exact h
    obtain ⟨rb, ro, rfl, hrow2⟩ : ∃ rb ro, ra = some ⟨rb, ro, none⟩ ∧ RAt 1 oC w rb ro rs := by
      rcases hr with hr | hr
      · rw [hr] at hle; simp at hle; omega
      · exact hr
    have hE : EnvC b o l rb ro (RB rs) w := ⟨hrow, hrow2.1, fun j hj => by
      have := hrow2.2 j (by omega) 0 (by omega)
      rw [Nat.mul_one, Nat.add_zero] at this
      rw [this]
      simp [oC, RB, List.getElem?_eq_getElem (show j < rs.length by omega)]⟩
    have hs0 : Sub l 0 (trOf l) := by have := Sub.root t1; rwa [← t2] at this
    have hflat : (trOf l).flat.length = l.length := by rw [← t2]
    have HCo := hide (fun (w' : World) (hb : Below w.heap.size w w') => codeOf_any b o c l rb ro rs.length rc (RB rs) t3 hc (by omega) (trOf l) 0 0 w' hs0 (by omega) (hE.below hb))
    have hto : ∀ x ∈ cbL l rs, ∃ q : Nat, x.to = (q : Int) ∧ q ≤ 1000 := by
      intro x hx
      rw [e1] at hx
      obtain ⟨q, h1, h2⟩ := cd_to _ _ _ _ x hx
      exact ⟨q, h1, by omega⟩
    have hcl : (cbL l rs).length = l.length := by rw [e1, Tr.cd_len, hflat]
    have hus : usB (cbL l rs) 0 = cbN l rs := by rw [e1, Tr.us_eq, e2]; omega
    rw [← e1] at HCo
    have hle' : (rs.length : Int) = (l.length : Int) := by omega
    obtain ⟨CL, hCL⟩ : ∃ CL, CL = cbL l rs := ⟨_, rfl⟩
    obtain ⟨CN, hCN⟩ : ∃ CN, CN = cbN l rs := ⟨_, rfl⟩
    rw [← hCL, ← hCN] at hus
    rw [← hCL] at HCo hto hcl
    rw [← hCL, ← hCN]
    have HUs := hide (fun (ad : Option Addr) (c : Nat) (w : World) (h : CdRow w ad CL) => usedBy_any ad c CL w (by omega) h hto)
    rw [hus] at HUs
    clear hok h hr e1 e2 hg t1 t2 hrow hrow2 hE hs0 hflat hto hus hCL hCN
    rw [hle]
    have e0 : ((0 : Nat) : Int) = 0 := rfl
    simp only [hle, e0] at HCo
    have hclp : 0 < CL.length := by omega
    clear e0 hcl
    go_enter Try.func24, Try.ntmps24
    go_wp2_with fail
    refine HG.out.mono ?_
    rintro e w1 ⟨rfl, hb1⟩
    have HB1 := hide hb1
    clear hb1 HG
    go_wp2_with fail
    refine (HCo.out w1 HB1.out).mono ?_
    rintro e w2 ⟨v, rfl, ho, hb2⟩
    obtain ⟨g, cp, rfl, -, -⟩ := tOwn_some ho hclp
    have HB2 := hide (HB1.out.trans (hb2.mono HB1.out.size))
    have HO := hide (iOwn_lower ho HB1.out.size)
    have HRw : Hid (CdRow w2 (some ⟨g, 0, none⟩) CL) := hide (RRow.ofOwn ho rfl)
    have HUc := hide (HUs.out (some ⟨g, 0, none⟩) cp w2 HRw.out)
    clear hb2 ho HUs HCo
    go_wp2_with fail
    refine HUc.out.mono ?_
    rintro e w3 ⟨rfl, hb3⟩
    have HB3 := hide (HB2.out.trans (hb3.mono HB2.out.size))
    have HO3 := hide (tOwn_keep HO.out (w' := w3) (fun k _ hk => hb3.block k hk))
    clear hb3
    go_wp2_with fail
    exact bodyPost_ret (v := .tuple #[.slice (some ⟨g, 0, none⟩) CL.length cp, .int .i64 (CN : Int), .bool true]) (by simp [results, Try.results24, go_sem]) rfl ⟨_, rfl, HO3.out, HB3.out⟩
end Go.Proofs.Ytiphcjbmoekkkaa.L

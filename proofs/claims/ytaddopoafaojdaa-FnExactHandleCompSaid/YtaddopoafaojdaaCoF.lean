/-
  Trees told as cells, and the numbers that they may tell, by the specification: contracts of l9Flat, l9Results. Conditions: at most 1048576 cells.
-/
import Derived.Test.YtaddopoafaojdaaCoT
import Derived.Deep.RegionHeld3
namespace Go.Proofs.Ytaddopoafaojdaa.C
open Go.Proofs.Ytaddopoafaojdaa.W
open Go.ChangeShapes Go.WideShapes Go.ChangeAt Go.RowKit
set_option linter.unusedVariables false

def FlatGoal (t : Tr) : Prop := ∀ (u v : Value) (base n : Nat) (xs : List Value) (P : Nat → Prop) (w : World), (∀ g, P g → g < w.heap.size → v.ownBlock ≠ some g) → n + t.flat.length ≤ 1048576 → base ≤ w.heap.size → CV w P t u → w.ownsRow base 52 2 v n xs →
    Calls Try.prog 33 #[u, v] w fun e w' => ∃ v', e = .returned v' ∧ w'.ownsRow base 52 2 v' (n + t.flat.length) (xs ++ cv t.flat) ∧ w.grownBy w' v.ownBlock ∧ Apart w v v'

set_option maxRecDepth 20000 in
set_option maxHeartbeats 2000000 in
theorem l9Flat_any : ∀ t, FlatGoal t := by
  intro t
  induction t with
  | ret xn =>
    intro u v base n xs P w hsep hn hb hT hown
    obtain rfl : u = .agg #[.bool false, .int .i64 xn, .slice none 0 0] := hT
    have HO := hide hown
    obtain ⟨ad, c, rfl⟩ := iOwn_form hown
    obtain ⟨i0, hi0, hz0, hz1, hz2⟩ := infoPartsT infoCe
    have Hi := hide hi0
    have M1 : Hid (n + 1 ≤ maxLen) := hide (by unfold maxLen; simp [Tr.flat] at hn; omega)
    have hn1 : n + 1 ≤ 1048576 := by simpa [Tr.flat] using hn
    clear hown hsep hi0 hn
    show Calls _ _ _ _ (fun e w' => ∃ v', e = .returned v' ∧ w'.ownsRow base 52 2 v' (n + 1) (xs ++ [.int .i64 1, .int .i64 xn]) ∧ _)
    go_enter Try.func33, Try.ntmps33
    go_wp2_with (at_builtin; refine wpList_append_sep rfl _ _ 28 rfl base 52 i0 (.agg #[.int .i64 0, .int .i64 0]) 2 16 Try.underlying28 Hi.out hz0 hz1 hz2 rfl (by decide) _ n xs rfl ((HO.out.alloc _).alloc _) ⟨w.heap.size + 1, 0, none⟩ 1 1 [.int .i64 1, .int .i64 xn] rfl rfl (c2_news (by have := heap_alloc_new (w.alloc (.cells #[.bool false, .int .i64 xn, .slice none 0 0] 44)) (.cells #[.int .i64 1, .int .i64 xn] 52); simpa using this)) (c2_one _ _) M1.out (by omega) (by simp; omega) ?_)
    intro v1 w1 hown1 hgrow1 hap1
    obtain ⟨ad1, c1, rfl⟩ := iOwn_form hown1
    have HO1 := hide hown1
    have HG1 : Hid (w.grownBy w1 (Value.slice ad n c).ownBlock) := hide (grownT (grownA w (.cells #[.bool false, .int .i64 xn, .slice none 0 0] 44) _) (grownT (grownA _ (.cells #[.int .i64 1, .int .i64 xn] 52) _) hgrow1 (fun k hk => .inl hk)) (fun k hk => .inl hk))
    have HA1 : Hid (Apart w (.slice ad n c) (.slice ad1 (n + 1) c1)) := hide (fun g hg => by
      rcases hap1 g hg with h | h
      · exact .inl h
      · right; simp at h; omega)
    clear hown1 hgrow1 hap1
    go_wp2_with fail
    go_ret
    exact ⟨_, rfl, HO1.out, HG1.out, HA1.out⟩
  | ask xn a b iha ihb =>
    intro u v base n xs P w hsep hn hb hT hown
    obtain ⟨g, cap, ba, na, sa, bb, nb, sb, rfl, hP, hg, c0, c1, c2, c3, c4, c5, h1, h2⟩ := hT
    have HO := hide hown
    have HSep := hide hsep
    have H1 := hide h1
    have H2 := hide h2
    obtain ⟨aad, al, ac, ea⟩ : ∃ aad al ac, sa = .slice aad al ac := by obtain ⟨_, _, ad, l, c, e⟩ := h1.form; simp at e; exact ⟨_, _, _, e.2.2⟩
    obtain ⟨bad, bl, bc, eb⟩ : ∃ bad bl bc, sb = .slice bad bl bc := by obtain ⟨_, _, ad, l, c, e⟩ := h2.form; simp at e; exact ⟨_, _, _, e.2.2⟩
    subst ea eb
    obtain ⟨ad, c, rfl⟩ := iOwn_form hown
    obtain ⟨i0, hi0, hz0, hz1, hz2⟩ := infoPartsT infoCe
    have Hi := hide hi0
    have hn1 : n + (a.flat.length + b.flat.length + 1) ≤ 1048576 := by simpa [Tr.flat] using hn
    have M1 : Hid (n + 1 ≤ maxLen) := hide (by unfold maxLen; omega)
    have HIa := hide iha
    have HIb := hide ihb
    have hng : (Value.slice ad n c).ownBlock ≠ some g := hsep g hP hg
    have hol : ∀ k, (Value.slice ad n c).ownBlock = some k → k < w.heap.size := fun k hk => (HO.out.lt k hk).2
    clear hown hsep hi0 h1 h2 iha ihb hn
    have HF : Hid (xs ++ cv (Tr.ask xn a b).flat = xs ++ [.int .i64 2, .int .i64 xn] ++ cv a.flat ++ cv b.flat ∧ n + (Tr.ask xn a b).flat.length = n + 1 + a.flat.length + b.flat.length) := hide ⟨by simp [Tr.flat, cv, cv_app], by simp [Tr.flat]; omega⟩
    rw [HF.out.1, HF.out.2]
    clear HF
    obtain ⟨LA, hLA⟩ : ∃ LA, LA = a.flat.length := ⟨_, rfl⟩
    obtain ⟨LB, hLB⟩ : ∃ LB, LB = b.flat.length := ⟨_, rfl⟩
    obtain ⟨CA, hCA⟩ : ∃ CA, CA = cv a.flat := ⟨_, rfl⟩
    obtain ⟨CB, hCB⟩ : ∃ CB, CB = cv b.flat := ⟨_, rfl⟩
    unfold FlatGoal at HIa HIb
    rw [← hLA, ← hLB] at hn1
    rw [← hLA, ← hCA] at HIa
    rw [← hLB, ← hCB] at HIb
    rw [← hLA, ← hLB, ← hCA, ← hCB]
    clear hLA hLB hCA hCB
    go_enter Try.func33, Try.ntmps33
    go_wp2_with (at_builtin; refine wpList_append_sep rfl _ _ 28 rfl base 52 i0 (.agg #[.int .i64 0, .int .i64 0]) 2 16 Try.underlying28 Hi.out hz0 hz1 hz2 rfl (by decide) _ n xs rfl ((HO.out.alloc _).alloc _) ⟨w.heap.size + 1, 0, none⟩ 1 1 [.int .i64 2, .int .i64 xn] rfl rfl (c2_news (by have := heap_alloc_new (w.alloc (.cells #[.bool true, .int .i64 xn, .slice (some ⟨g, 0, none⟩) 2 cap] 44)) (.cells #[.int .i64 2, .int .i64 xn] 52); simpa using this)) (c2_one _ _) M1.out (by omega) (by simp; omega) ?_)
    intro v1 w1 hown1 hgrow1 hap1
    obtain ⟨ad1, c1', rfl⟩ := iOwn_form hown1
    have HO1 := hide hown1
    have g1 : w.grownBy w1 (Value.slice ad n c).ownBlock := grownT (grownA w (.cells #[.bool true, .int .i64 xn, .slice (some ⟨g, 0, none⟩) 2 cap] 44) _) (grownT (grownA _ (.cells #[.int .i64 2, .int .i64 xn] 52) _) hgrow1 (fun k hk => .inl hk)) (fun k hk => .inl hk)
    have HG1 := hide g1
    have HA1 : Hid (Apart w (.slice ad n c) (.slice ad1 (n + 1) c1')) := hide (fun g hg => by
      rcases hap1 g hg with h | h
      · exact .inl h
      · right; simp at h; omega)
    have y2 : w1.cell? ⟨w.heap.size, 2, none⟩ = some (.slice (some ⟨g, 0, none⟩) 2 cap) := hgrow1.cell (a := ⟨w.heap.size, 2, none⟩) (by simp) (fun e => by have := hol w.heap.size e.symm; omega)
    have q0 := HG1.out.cell c0 (fun e => hng e.symm)
    have q1 := HG1.out.cell c1 (fun e => hng e.symm)
    have q2 := HG1.out.cell c2 (fun e => hng e.symm)
    have H1a : Hid (CV w1 (fun k => P k ∧ k < w.heap.size) a (.agg #[.bool ba, .int .i64 na, .slice aad al ac])) := hide (H1.out.keep g1.size (fun k hk1 hk2 => ⟨g1.block k hk2 (fun e => HSep.out k hk1 hk2 e.symm), hk1, hk2⟩))
    have hs1 := g1.size
    have HC1 := hide (HIa.out (.agg #[.bool ba, .int .i64 na, .slice aad al ac]) (.slice ad1 (n + 1) c1') base (n + 1) (xs ++ [.int .i64 2, .int .i64 xn]) (fun k => P k ∧ k < w.heap.size) (w1.alloc (.cells #[.bool ba, .int .i64 na, .slice aad al ac] 44)) (fun k h1 _ e => by
        rcases HA1.out k e with h | h
        · exact HSep.out k h1.1 h1.2 h
        · have := h1.2; omega) (by omega) (by simp; omega) (H1a.out.below ((Below.refl _ _).alloc (Nat.le_refl _) _)) (HO1.out.alloc _))
    clear hown1 hgrow1 hap1 g1
    go_wp2_with fail
    refine wp_loop_rounds 3 ?_
    rw [rounds_succ]
    go_wp2_with fail
    refine Calls.mono HC1.out ?_
    rintro e w2 ⟨v2, rfl, ho2, hg2, ha2⟩
    obtain ⟨ad2, c2', rfl⟩ := iOwn_form ho2
    have HO2 := hide ho2
    have HG2 : Hid (w.grownBy w2 (Value.slice ad n c).ownBlock) := hide (grownT (grownT HG1.out (grownA w1 _ _) (fun k hk => .inl hk)) hg2 (fun k hk => HA1.out k hk))
    have HA2 : Hid (Apart w (.slice ad n c) (.slice ad2 (n + 1 + LA) c2')) := hide (apartT HA1.out ha2 (by simp; omega))
    have r3 := HG2.out.cell c3 (fun e => hng e.symm)
    have r4 := HG2.out.cell c4 (fun e => hng e.symm)
    have r5 := HG2.out.cell c5 (fun e => hng e.symm)
    have hs2 := HG2.out.size
    have H2a : Hid (CV w2 (fun k => P k ∧ k < w.heap.size) b (.agg #[.bool bb, .int .i64 nb, .slice bad bl bc])) := hide (H2.out.keep hs2 (fun k hk1 hk2 => ⟨HG2.out.block k hk2 (fun e => HSep.out k hk1 hk2 e.symm), hk1, hk2⟩))
    have HC2 := hide (HIb.out (.agg #[.bool bb, .int .i64 nb, .slice bad bl bc]) (.slice ad2 (n + 1 + LA) c2') base (n + 1 + LA) (xs ++ [.int .i64 2, .int .i64 xn] ++ CA) (fun k => P k ∧ k < w.heap.size) (w2.alloc (.cells #[.bool bb, .int .i64 nb, .slice bad bl bc] 44)) (fun k h1 _ e => by
        rcases HA2.out k e with h | h
        · exact HSep.out k h1.1 h1.2 h
        · have := h1.2; omega) (by omega) (by simp; omega) (H2a.out.below ((Below.refl _ _).alloc (Nat.le_refl _) _)) (HO2.out.alloc _))
    clear ho2 hg2 ha2 HC1 q0 q1 q2 y2
    go_wp2_with fail
    rw [rounds_succ]
    go_wp2_with fail
    refine Calls.mono HC2.out ?_
    rintro e w3 ⟨v3, rfl, ho3, hg3, ha3⟩
    obtain ⟨ad3, c3', rfl⟩ := iOwn_form ho3
    have HO3 := hide ho3
    have HG3 : Hid (w.grownBy w3 (Value.slice ad n c).ownBlock) := hide (grownT (grownT HG2.out (grownA w2 _ _) (fun k hk => .inl hk)) hg3 (fun k hk => HA2.out k hk))
    have HA3 : Hid (Apart w (.slice ad n c) (.slice ad3 (n + 1 + LA + LB) c3')) := hide (apartT HA2.out ha3 (by simp; omega))
    clear ho3 hg3 ha3 HC2 r3 r4 r5
    go_wp2_with fail
    rw [rounds_succ]
    go_wp2_with fail
    go_ret
    exact ⟨_, rfl, HO3.out, HG3.out, HA3.out⟩

/-- All that may be told. -/
def Tr.res : Tr → List Int
  | .ret n => [n]
  | .ask _ a b => a.res ++ b.res
theorem Tr.res_len : ∀ t : Tr, t.res.length ≤ t.flat.length
  | .ret n => by simp [Tr.res, Tr.flat]
  | .ask n a b => by have := Tr.res_len a; have := Tr.res_len b; simp [Tr.res, Tr.flat]; omega
end Go.Proofs.Ytaddopoafaojdaa.C

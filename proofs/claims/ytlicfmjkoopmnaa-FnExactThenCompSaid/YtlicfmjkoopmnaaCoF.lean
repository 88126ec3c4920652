/-
  Trees told as cells, and the numbers that they may tell, by the specification: contracts of l9Flat, l9Results. Conditions: at most 1048576 cells.
-/
import Derived.Test.YtlicfmjkoopmnaaCoT
import Derived.Deep.RegionHeld3
namespace Go.Proofs.Ytlicfmjkoopmnaa.C
open Go.Proofs.Ytlicfmjkoopmnaa.W
open Go.ChangeShapes Go.WideShapes Go.ChangeAt Go.RowKit
set_option linter.unusedVariables false

def FlatGoal (t : Tr) : Prop := ∀ (u v : Value) (base n : Nat) (xs : List Value) (P : Nat → Prop) (w : World), (∀ g, P g → g < w.heap.size → v.ownBlock ≠ some g) → n + t.flat.length ≤ 1048576 → base ≤ w.heap.size → CV w P t u → w.ownsRow base 66 2 v n xs →
    Calls Try.prog 55 #[u, v] w fun e w' => ∃ v', e = .returned v' ∧ w'.ownsRow base 66 2 v' (n + t.flat.length) (xs ++ cv t.flat) ∧ w.grownBy w' v.ownBlock ∧ Apart w v v'

set_option maxRecDepth 20000 in
set_option maxHeartbeats 2000000 in
theorem l9Flat_any : ∀ t, FlatGoal t := by
  intro t
  induction t with
  | ret xn =>
    intro u v base n xs P w hsep hn hb hT hown
    obtain rfl : u = .agg #[.bool false, .int .i64 xn, .slice none 0 0] := hT
    have HO := hide hown
    obtain ⟨ad, c, rfl⟩ := iOwn_form hown
    obtain ⟨i0, hi0, hz0, hz1, hz2⟩ := infoPartsT infoCe
    have Hi := hide hi0
    have M1 : Hid (n + 1 ≤ maxLen) := hide (by unfold maxLen; simp [Tr.flat] at hn; omega)
    have hn1 : n + 1 ≤ 1048576 := by simpa [Tr.flat] using hn
    clear hown hsep hi0 hn
    show Calls _ _ _ _ (fun e w' => ∃ v', e = .returned v' ∧ w'.ownsRow base 66 2 v' (n + 1) (xs ++ [.int .i64 1, .int .i64 xn]) ∧ _)
    go_enter Try.func55, Try.ntmps55
    go_wp2_with (at_builtin; refine wpList_append_sep rfl _ _ 25 rfl base 66 i0 (.agg #[.int .i64 0, .int .i64 0]) 2 16 Try.underlying25 Hi.out hz0 hz1 hz2 rfl (by decide) _ n xs rfl ((HO.out.alloc _).alloc _) ⟨w.heap.size + 1, 0, none⟩ 1 1 [.int .i64 1, .int .i64 xn] rfl rfl (c2_news (by have := heap_alloc_new (w.alloc (.cells #[.bool false, .int .i64 xn, .slice none 0 0] 62)) (.cells #[.int .i64 1, .int .i64 xn] 66); simpa using this)) (c2_one _ _) M1.out (by omega) (by simp; omega) ?_)
    intro v1 w1 hown1 hgrow1 hap1
    obtain ⟨ad1, c1, rfl⟩ := iOwn_form hown1
    have HO1 := hide hown1
    have HG1 : Hid (w.grownBy w1 (Value.slice ad n c).ownBlock) := hide (grownT (grownA w (.cells #[.bool false, .int .i64 xn, .slice none 0 0] 62) _) (grownT (grownA _ (.cells #[.int .i64 1, .int .i64 xn] 66) _) hgrow1 (fun k hk => .inl hk)) (fun k hk => .inl hk))
    have HA1 : Hid (Apart w (.slice ad n c) (.slice ad1 (n + 1) c1)) := hide (fun g hg => by
      rcases hap1 g hg with h | h
      · exact .inl h
      · right; simp at h; omega)
    clear hown1 hgrow1 hap1
    go_wp2_with fail
    go_ret
    exact ⟨_, rfl, HO1.out, HG1.out, HA1.out⟩
  | ask xn a b iha ihb =>
    intro u v base n xs P w hsep hn hb hT hown
    obtain ⟨g, cap, ba, na, sa, bb, nb, sb, rfl, hP, hg, c0, c1, c2, c3, c4, c5, h1, h2⟩ := hT
    have HO := hide hown
    have HSep := hide hsep
    have H1 := hide h1
    have H2 := hide h2
    obtain ⟨aad, al, ac, ea⟩ : ∃ aad al ac, sa = .slice aad al ac := by obtain ⟨_, _, ad, l, c, e⟩ := h1.form; simp at e; exact ⟨_, _, _, e.2.2⟩
    obtain ⟨bad, bl, bc, eb⟩ : ∃ bad bl bc, sb = .slice bad bl bc := by obtain ⟨_, _, ad, l, c, e⟩ := h2.form; simp at e; exact ⟨_, _, _, e.2.2⟩
    subst ea eb
    obtain ⟨ad, c, rfl⟩ := iOwn_form hown
    obtain ⟨i0, hi0, hz0, hz1, hz2⟩ := infoPartsT infoCe
    have Hi := hide hi0
    have hn1 : n + (a.flat.length + b.flat.length + 1) ≤ 1048576 := by simpa [Tr.flat] using hn
    have M1 : Hid (n + 1 ≤ maxLen) := hide (by unfold maxLen; omega)
    have HIa := hide iha
    have HIb := hide ihb
    have hng : (Value.slice ad n c).ownBlock ≠ some g := hsep g hP hg
    have hol : ∀ k, (Value.slice ad n c).ownBlock = some k → k < w.heap.size := fun k hk => (HO.out.lt k hk).2
    clear hown hsep hi0 h1 h2 iha ihb hn
    have HF : Hid (xs ++ cv (Tr.ask xn a b).flat = xs ++ [.int .i64 2, .int .i64 xn] ++ cv a.flat ++ cv b.flat ∧ n + (Tr.ask xn a b).flat.length = n + 1 + a.flat.length + b.flat.length) := hide ⟨by simp [Tr.flat, cv, cv_app], by simp [Tr.flat]; omega⟩
    rw [HF.out.1, HF.out.2]
    clear HF
    obtain ⟨LA, hLA⟩ : ∃ LA, LA = a.flat.length := ⟨_, rfl⟩
    obtain ⟨LB, hLB⟩ : ∃ LB, LB = b.flat.length := ⟨_, rfl⟩
    obtain ⟨CA, hCA⟩ : ∃ CA, CA = cv a.flat := ⟨_, rfl⟩
    obtain ⟨CB, hCB⟩ : ∃ CB, CB = cv b.flat := ⟨_, rfl⟩
    unfold FlatGoal at HIa HIb
    rw [← hLA, ← hLB] at hn1
    rw [← hLA, ← hCA] at HIa
    rw [← hLB, ← hCB] at HIb
    rw [← hLA, ← hLB, ← hCA, ← hCB]
    clear hLA hLB hCA hCB
    go_enter Try.func55, Try.ntmps55
    go_wp2_with (at_builtin; refine wpList_append_sep rfl _ _ 25 rfl base 66 i0 (.agg #[.int .i64 0, .int .i64 0]) 2 16 Try.underlying25 Hi.out hz0 hz1 hz2 rfl (by decide) _ n xs rfl ((HO.out.alloc _).alloc _) ⟨w.heap.size + 1, 0, none⟩ 1 1 [.int .i64 2, .int .i64 xn] rfl rfl (c2_news (by have := heap_alloc_new (w.alloc (.cells #[.bool true, .int .i64 xn, .slice (some ⟨g, 0, none⟩) 2 cap] 62)) (.cells #[.int .i64 2, .int .i64 xn] 66); simpa using this)) (c2_one _ _) M1.out (by omega) (by simp; omega) ?_)
    intro v1 w1 hown1 hgrow1 hap1
    obtain ⟨ad1, c1', rfl⟩ := iOwn_form hown1
    have HO1 := hide hown1
    have g1 : w.grownBy w1 (Value.slice ad n c).ownBlock := grownT (grownA w (.cells #[.bool true, .int .i64 xn, .slice (some ⟨g, 0, none⟩) 2 cap] 62) _) (grownT (grownA _ (.cells #[.int .i64 2, .int .i64 xn] 66) _) hgrow1 (fun k hk => .inl hk)) (fun k hk => .inl hk)
    have HG1 := hide g1
    have HA1 : Hid (Apart w (.slice ad n c) (.slice ad1 (n + 1) c1')) := hide (fun g hg => by
      rcases hap1 g hg with h | h
      · exact .inl h
      · right; simp at h; omega)
    have y2 : w1.cell? ⟨w.heap.size, 2, none⟩ = some (.slice (some ⟨g, 0, none⟩) 2 cap) := hgrow1.cell (a := ⟨w.heap.size, 2, none⟩) (by simp) (fun e => by have := hol w.heap.size e.symm; omega)
    have q0 := HG1.out.cell c0 (fun e => hng e.symm)
    have q1 := HG1.out.cell c1 (fun e => hng e.symm)
    have q2 := HG1.out.cell c2 (fun e => hng e.symm)
    have H1a : Hid (CV w1 (fun k => P k ∧ k < w.heap.size) a (.agg #[.bool ba, .int .i64 na, .slice aad al ac])) := hide (H1.out.keep g1.size (fun k hk1 hk2 => ⟨g1.block k hk2 (fun e => HSep.out k hk1 hk2 e.symm), hk1, hk2⟩))
    have hs1 := g1.size
    have HC1 := hide (HIa.out (.agg #[.bool ba, .int .i64 na, .slice aad al ac]) (.slice ad1 (n + 1) c1') base (n + 1) (xs ++ [.int .i64 2, .int .i64 xn]) (fun k => P k ∧ k < w.heap.size) (w1.alloc (.cells #[.bool ba, .int .i64 na, .slice aad al ac] 62)) (fun k h1 _ e => by
        rcases HA1.out k e with h | h
        · exact HSep.out k h1.1 h1.2 h
        · have := h1.2; omega) (by omega) (by simp; omega) (H1a.out.below ((Below.refl _ _).alloc (Nat.le_refl _) _)) (HO1.out.alloc _))
    clear hown1 hgrow1 hap1 g1
    go_wp2_with fail
    refine wp_loop_rounds 3 ?_
    rw [rounds_succ]
    go_wp2_with fail
    refine Calls.mono HC1.out ?_
    rintro e w2 ⟨v2, rfl, ho2, hg2, ha2⟩
    obtain ⟨ad2, c2', rfl⟩ := iOwn_form ho2
    have HO2 := hide ho2
    have HG2 : Hid (w.grownBy w2 (Value.slice ad n c).ownBlock) := hide (grownT (grownT HG1.out (grownA w1 _ _) (fun k hk => .inl hk)) hg2 (fun k hk => HA1.out k hk))
    have HA2 : Hid (Apart w (.slice ad n c) (.slice ad2 (n + 1 + LA) c2')) := hide (apartT HA1.out ha2 (by simp; omega))
    have r3 := HG2.out.cell c3 (fun e => hng e.symm)
    have r4 := HG2.out.cell c4 (fun e => hng e.symm)
    have r5 := HG2.out.cell c5 (fun e => hng e.symm)
    have hs2 := HG2.out.size
    have H2a : Hid (CV w2 (fun k => P k ∧ k < w.heap.size) b (.agg #[.bool bb, .int .i64 nb, .slice bad bl bc])) := hide (H2.out.keep hs2 (fun k hk1 hk2 => ⟨HG2.out.block k hk2 (fun e => HSep.out k hk1 hk2 e.symm), hk1, hk2⟩))
    have HC2 := hide (HIb.out (.agg #[.bool bb, .int .i64 nb, .slice bad bl bc]) (.slice ad2 (n + 1 + LA) c2') base (n + 1 + LA) (xs ++ [.int .i64 2, .int .i64 xn] ++ CA) (fun k => P k ∧ k < w.heap.size) (w2.alloc (.cells #[.bool bb, .int .i64 nb, .slice bad bl bc] 62)) (fun k h1 _ e => by
        rcases HA2.out k e with h | h
        · exact HSep.out k h1.1 h1.2 h
        · have := h1.2; omega) (by omega) (by simp; omega) (H2a.out.below ((Below.refl _ _).alloc (Nat.le_refl _) _)) (HO2.out.alloc _))
    clear ho2 hg2 ha2 HC1 q0 q1 q2 y2
    go_wp2_with fail
    rw [rounds_succ]
    go_wp2_with fail
    refine Calls.mono HC2.out ?_
    rintro e w3 ⟨v3, rfl, ho3, hg3, ha3⟩
    obtain ⟨ad3, c3', rfl⟩ := iOwn_form ho3
    have HO3 := hide ho3
    have HG3 : Hid (w.grownBy w3 (Value.slice ad n c).ownBlock) := hide (grownT (grownT HG2.out (grownA w2 _ _) (fun k hk => .inl hk)) hg3 (fun k hk => HA2.out k hk))
    have HA3 : Hid (Apart w (.slice ad n c) (.slice ad3 (n + 1 + LA + LB) c3')) := hide (apartT HA2.out ha3 (by simp; omega))
    clear ho3 hg3 ha3 HC2 r3 r4 r5
    go_wp2_with fail
    rw [rounds_succ]
    go_wp2_with fail
    go_ret
    exact ⟨_, rfl, HO3.out, HG3.out, HA3.out⟩

/-- All that may be told. -/
def Tr.res : Tr → List Int
  | .ret n => [n]
  | .ask _ a b => a.res ++ b.res
theorem Tr.res_len : ∀ t : Tr, t.res.length ≤ t.flat.length
  | .ret n => by simp [Tr.res, Tr.flat]
  | .ask n a b => by have := Tr.res_len a; have := Tr.res_len b; simp [Tr.res, Tr.flat]; omega

def ResGoal (t : Tr) : Prop := ∀ (u v : Value) (base n : Nat) (xs : List Value) (P : Nat → Prop) (w : World), (∀ g, P g → g < w.heap.size → v.ownBlock ≠ some g) → n + t.flat.length ≤ 1048576 → base ≤ w.heap.size → CV w P t u → w.ownsRow base 3 1 v n xs →
    Calls Try.prog 58 #[u, v] w fun e w' => ∃ v', e = .returned v' ∧ w'.ownsRow base 3 1 v' (n + t.res.length) (xs ++ t.res.map (Value.int .i64)) ∧ w.grownBy w' v.ownBlock ∧ Apart w v v'

set_option maxRecDepth 20000 in
set_option maxHeartbeats 2000000 in
theorem l9Results_any : ∀ t, ResGoal t := by
  intro t
  induction t with
  | ret xn =>
    intro u v base n xs P w hsep hn hb hT hown
    obtain rfl : u = .agg #[.bool false, .int .i64 xn, .slice none 0 0] := hT
    have HO := hide hown
    obtain ⟨ad, c, rfl⟩ := iOwn_form hown
    obtain ⟨i0, hi0, hz0, hz1, hz2⟩ := infoPartsT infoInt
    have Hi := hide hi0
    have M1 : Hid (n + 1 ≤ maxLen) := hide (by unfold maxLen; simp [Tr.flat] at hn; omega)
    have hn1 : n + 1 ≤ 1048576 := by simpa [Tr.flat] using hn
    clear hown hsep hi0 hn
    show Calls _ _ _ _ (fun e w' => ∃ v', e = .returned v' ∧ w'.ownsRow base 3 1 v' (n + 1) (xs ++ [.int .i64 xn]) ∧ _)
    have HN : Hid (∀ j u, [Value.int .i64 xn][j]? = some u → ((w.alloc (.cells #[.bool false, .int .i64 xn, .slice none 0 0] 62)).alloc (.cells #[.int .i64 xn] 3)).cell? ((⟨w.heap.size + 1, 0, none⟩ : Addr).add j) = some u) := hide (by
      intro j u hu
      have hh : ((w.alloc (.cells #[.bool false, .int .i64 xn, .slice none 0 0] 62)).alloc (.cells #[.int .i64 xn] 3)).heap[w.heap.size + 1]? = some (.cells #[.int .i64 xn] 3) := by
        have := heap_alloc_new (w.alloc (.cells #[.bool false, .int .i64 xn, .slice none 0 0] 62)) (.cells #[.int .i64 xn] 3); simpa using this
      rw [iAdd, Nat.zero_add, cell_of_blk hh, ← hu]; simp)
    go_enter Try.func58, Try.ntmps58
    go_wp2_with (at_builtin; refine wpList_append_sep rfl _ _ 55 rfl base 3 i0 (.int .i64 0) 1 8 Try.underlying55 Hi.out hz0 hz1 hz2 rfl (by decide) _ n xs rfl ((HO.out.alloc _).alloc _) ⟨w.heap.size + 1, 0, none⟩ 1 1 [.int .i64 xn] rfl rfl HN.out (iOne [xn]) M1.out (by omega) (by simp; omega) ?_)
    intro v1 w1 hown1 hgrow1 hap1
    obtain ⟨ad1, c1, rfl⟩ := iOwn_form hown1
    have HO1 := hide hown1
    have HG1 : Hid (w.grownBy w1 (Value.slice ad n c).ownBlock) := hide (grownT (grownA w (.cells #[.bool false, .int .i64 xn, .slice none 0 0] 62) _) (grownT (grownA _ (.cells #[.int .i64 xn] 3) _) hgrow1 (fun k hk => .inl hk)) (fun k hk => .inl hk))
    have HA1 : Hid (Apart w (.slice ad n c) (.slice ad1 (n + 1) c1)) := hide (fun g hg => by
      rcases hap1 g hg with h | h
      · exact .inl h
      · right; simp at h; omega)
    clear hown1 hgrow1 hap1
    go_wp2_with fail
    go_ret
    exact ⟨_, rfl, HO1.out, HG1.out, HA1.out⟩
  | ask xn a b iha ihb =>
    intro u v base n xs P w hsep hn hb hT hown
    obtain ⟨g, cap, ba, na, sa, bb, nb, sb, rfl, hP, hg, c0, c1, c2, c3, c4, c5, h1, h2⟩ := hT
    have HO := hide hown
    have HSep := hide hsep
    obtain ⟨aad, al, ac, ea⟩ : ∃ aad al ac, sa = .slice aad al ac := by obtain ⟨_, _, ad, l, c, e⟩ := h1.form; simp at e; exact ⟨_, _, _, e.2.2⟩
    obtain ⟨bad, bl, bc, eb⟩ : ∃ bad bl bc, sb = .slice bad bl bc := by obtain ⟨_, _, ad, l, c, e⟩ := h2.form; simp at e; exact ⟨_, _, _, e.2.2⟩
    subst ea eb
    have H1 := hide h1
    have H2 := hide h2
    obtain ⟨ad, c, rfl⟩ := iOwn_form hown
    have hn1 : n + (a.flat.length + b.flat.length + 1) ≤ 1048576 := by simpa [Tr.flat] using hn
    have hra := Tr.res_len a
    have hrb := Tr.res_len b
    have HIa := hide iha
    have HIb := hide ihb
    have hng : (Value.slice ad n c).ownBlock ≠ some g := hsep g hP hg
    have hol : ∀ k, (Value.slice ad n c).ownBlock = some k → k < w.heap.size := fun k hk => (HO.out.lt k hk).2
    clear hown hsep h1 h2 iha ihb hn
    have HF : Hid (xs ++ (Tr.ask xn a b).res.map (Value.int .i64) = xs ++ a.res.map (Value.int .i64) ++ b.res.map (Value.int .i64) ∧ n + (Tr.ask xn a b).res.length = n + a.res.length + b.res.length) := hide ⟨by simp [Tr.res], by simp [Tr.res]; omega⟩
    rw [HF.out.1, HF.out.2]
    clear HF
    obtain ⟨FA, hFA⟩ : ∃ FA, FA = a.flat.length := ⟨_, rfl⟩
    obtain ⟨FB, hFB⟩ : ∃ FB, FB = b.flat.length := ⟨_, rfl⟩
    obtain ⟨LA, hLA⟩ : ∃ LA, LA = a.res.length := ⟨_, rfl⟩
    obtain ⟨LB, hLB⟩ : ∃ LB, LB = b.res.length := ⟨_, rfl⟩
    obtain ⟨CA, hCA⟩ : ∃ CA, CA = a.res.map (Value.int .i64) := ⟨_, rfl⟩
    obtain ⟨CB, hCB⟩ : ∃ CB, CB = b.res.map (Value.int .i64) := ⟨_, rfl⟩
    unfold ResGoal at HIa HIb
    rw [← hFA, ← hFB] at hn1
    rw [← hLA, ← hFA] at hra
    rw [← hLB, ← hFB] at hrb
    rw [← hLA, ← hCA, ← hFA] at HIa
    rw [← hLB, ← hCB, ← hFB] at HIb
    rw [← hLA, ← hLB, ← hCA, ← hCB]
    clear hLA hLB hCA hCB hFA hFB
    go_enter Try.func58, Try.ntmps58
    go_wp2_with fail
    obtain ⟨w0, hw0⟩ : ∃ w0, w0 = w.alloc (.cells #[.bool true, .int .i64 xn, .slice (some ⟨g, 0, none⟩) 2 cap] 62) := ⟨_, rfl⟩
    have hB0 : Below w.heap.size w w0 := by rw [hw0]; exact (Below.refl _ _).alloc (Nat.le_refl _) _
    have e6 : w0.cell? ⟨w.heap.size, 2, none⟩ = some (.slice (some ⟨g, 0, none⟩) 2 cap) := by rw [hw0, cell_of_blk (heap_alloc_new w _)]; rfl
    have hsz0 : w.heap.size < w0.heap.size := by rw [hw0]; simp
    have HO0 : Hid (w0.drew.ownsRow base 3 1 (.slice ad n c) n xs) := hide (tOwn_keep HO.out (fun k _ hk => by rw [hw0]; exact heap_alloc_old _ _ hk))
    have HG0 : Hid (w.grownBy w0.drew (Value.slice ad n c).ownBlock) := hide (grownD (by rw [hw0]; exact grownA _ _ _))
    rw [← hw0]
    have e0 := (hB0.cell (p := ⟨g, 0, none⟩) hg).trans c0
    have e1 := (hB0.cell (p := ⟨g, 1, none⟩) hg).trans c1
    have e2 := (hB0.cell (p := ⟨g, 2, none⟩) hg).trans c2
    have e3 := (hB0.cell (p := ⟨g, 3, none⟩) hg).trans c3
    have e4 := (hB0.cell (p := ⟨g, 4, none⟩) hg).trans c4
    have e5 := (hB0.cell (p := ⟨g, 5, none⟩) hg).trans c5
    have hnb : (Value.slice ad n c).ownBlock ≠ some w.heap.size := fun e => by have := hol _ e; omega
    have hg0 : g < w0.heap.size := by omega
    have hb0 : base ≤ w0.heap.size := by omega
    have H1a : Hid (CV w0.drew (fun k => P k ∧ k < w.heap.size) a (.agg #[.bool ba, .int .i64 na, .slice aad al ac])) := hide (H1.out.keep HG0.out.size (fun k hk1 hk2 => ⟨HG0.out.block k hk2 (fun e => HSep.out k hk1 hk2 e.symm), hk1, hk2⟩))
    have H2a : Hid (CV w0.drew (fun k => P k ∧ k < w.heap.size) b (.agg #[.bool bb, .int .i64 nb, .slice bad bl bc])) := hide (H2.out.keep HG0.out.size (fun k hk1 hk2 => ⟨HG0.out.block k hk2 (fun e => HSep.out k hk1 hk2 e.symm), hk1, hk2⟩))
    have HC1 := hide (HIa.out (.agg #[.bool ba, .int .i64 na, .slice aad al ac]) (.slice ad n c) base n xs (fun k => P k ∧ k < w.heap.size) w0.drew (fun k h1 _ => HSep.out k h1.1 h1.2) (by omega) hb0 H1a.out HO0.out)
    clear hw0 hB0 c0 c1 c2 c3 c4 c5
    go_region_held3 (fun w' => w'.cell? ⟨w.heap.size, 2, none⟩ = some (.slice (some ⟨g, 0, none⟩) 2 cap) ∧ w'.cell? ⟨g, 0, none⟩ = some (.bool ba) ∧ w'.cell? ⟨g, 1, none⟩ = some (.int .i64 na) ∧ w'.cell? ⟨g, 2, none⟩ = some (.slice aad al ac) ∧ w'.cell? ⟨g, 3, none⟩ = some (.bool bb) ∧ w'.cell? ⟨g, 4, none⟩ = some (.int .i64 nb) ∧ w'.cell? ⟨g, 5, none⟩ = some (.slice bad bl bc)) (go_keep)
      (first
        | (go_at_call 58; (with_reducible refine Calls.mono HC2.out ?_); rintro e wb ⟨v3, rfl, ho3, hg3, ha3⟩; obtain ⟨ad3, c3', rfl⟩ := iOwn_form ho3; have HO3 := hide ho3; have HG3 := hide hg3; have HA3 := hide ha3; (have fb6 := hg3.cell fa6 (fun e => hn6 e.symm); have fb0 := hg3.cell fa0 (fun e => hn7 e.symm); have fb1 := hg3.cell fa1 (fun e => hn7 e.symm); have fb2 := hg3.cell fa2 (fun e => hn7 e.symm); have fb3 := hg3.cell fa3 (fun e => hn7 e.symm); have fb4 := hg3.cell fa4 (fun e => hn7 e.symm); have fb5 := hg3.cell fa5 (fun e => hn7 e.symm)); clear ho3 hg3 ha3)
        | (go_at_call 58; (with_reducible refine Calls.mono HC1.out ?_); rintro e wa ⟨v2, rfl, ho2, hg2, ha2⟩; obtain ⟨ad2, c2', rfl⟩ := iOwn_form ho2; have hsa : w0.heap.size ≤ wa.heap.size := hg2.size; have HO2 := hide ho2; have HG2 : Hid (w.grownBy wa (Value.slice ad n c).ownBlock) := hide (grownT HG0.out hg2 (fun k hk => .inl hk)); have HA2 : Hid (Apart w (.slice ad n c) (.slice ad2 (n + LA) c2')) := hide (fun k hk => (ha2 k hk).imp_right (fun h => by have h' : w0.heap.size ≤ k := h; omega)); have hn7 : (Value.slice ad2 (n + LA) c2').ownBlock ≠ some g := (fun e => by rcases HA2.out g e with h | h; exact hng h; omega); have hn6 : (Value.slice ad2 (n + LA) c2').ownBlock ≠ some w.heap.size := (fun e => by rcases ha2 w.heap.size e with h | h; exact hnb h; have h' : w0.heap.size ≤ w.heap.size := h; omega); have HC2 := hide (HIb.out (.agg #[.bool bb, .int .i64 nb, .slice bad bl bc]) (.slice ad2 (n + LA) c2') base (n + LA) (xs ++ CA) (fun k => P k ∧ k < w.heap.size) wa (fun k h1 _ e => by rcases HA2.out k e with h | h; exact HSep.out k h1.1 h1.2 h; have := h1.2; omega) (by omega) (by omega) (H2a.out.grown hg2 (fun k hk => HSep.out k hk.1 hk.2)) HO2.out); (have fa6 := hg2.cell e6 (fun e => hnb e.symm); have fa0 := hg2.cell e0 (fun e => hng e.symm); have fa1 := hg2.cell e1 (fun e => hng e.symm); have fa2 := hg2.cell e2 (fun e => hng e.symm); have fa3 := hg2.cell e3 (fun e => hng e.symm); have fa4 := hg2.cell e4 (fun e => hng e.symm); have fa5 := hg2.cell e5 (fun e => hng e.symm)); clear ho2 hg2 ha2))
    all_goals
      clear e0 e1 e2 e3 e4 e5 e6 fa0 fa1 fa2 fa3 fa4 fa5 fa6 fb0 fb1 fb2 fb3 fb4 fb5 fb6
      go_wp2_with fail
      go_ret
      exact ⟨_, rfl, HO3.out, grownT HG2.out HG3.out (fun k hk => HA2.out k hk), apartT HA2.out HA3.out HG2.out.size⟩
end Go.Proofs.Ytlicfmjkoopmnaa.C

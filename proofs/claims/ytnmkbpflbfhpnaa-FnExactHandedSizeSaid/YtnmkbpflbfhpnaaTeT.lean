/-
  Trees told as cells by the specification: contracts of l3Flat and l3Tell. Conditions: at most 1048576 cells.
-/
import Derived.Test.YtnmkbpflbfhpnaaTeD
import Derived.Test.YtnmkbpflbfhpnaaTeE
namespace Go.Proofs.Ytnmkbpflbfhpnaa.W
open Go.ChangeShapes Go.WideShapes Go.ChangeAt Go.RowKit
set_option linter.unusedVariables false

def L3TGoal (k : F) : Prop := ∀ (x : Cc) (s v : Value) (base n : Nat) (xs : List Value) (P : Nat → Prop) (w : World), (∀ g, P g → g < w.heap.size → v.ownBlock ≠ some g) → n + (k.flat.length + 1) ≤ 1048576 → base ≤ w.heap.size → KidT w P k s → w.ownsRow base 42 2 v n xs →
    Calls Try.prog 18 #[.agg #[.int .i64 x.k, .int .i64 x.n, s], v] w fun e w' => ∃ v', e = .returned v' ∧ w'.ownsRow base 42 2 v' (n + (k.flat.length + 1)) (xs ++ cv (x :: k.flat)) ∧ w.grownBy w' v.ownBlock ∧ Apart w v v'

set_option maxRecDepth 20000 in
set_option maxHeartbeats 2000000 in
theorem l3Flat_any : ∀ k, L3TGoal k := by
  apply F.rec_kids
  intro k ih x s v base n xs P w hsep hn hb hT hown
  have IH := hide ih
  have HT := hide hT
  have HO := hide hown
  have HSep := hide hsep
  obtain ⟨sad, sc, rfl⟩ := hT.form
  obtain ⟨ad, c, rfl⟩ := iOwn_form hown
  obtain ⟨i0, hi0, hz0, hz1, hz2⟩ := infoPartsT infoCe
  have Hi := hide hi0
  have M1 : Hid (n + 1 ≤ maxLen) := hide (by unfold maxLen; omega)
  clear ih hT hown hsep hi0
  have hkl := F.len_flat k
  obtain ⟨KL, hKL⟩ : ∃ KL, KL = k.len := ⟨_, rfl⟩
  rw [← hKL] at HT hkl ⊢
  have HKL := hide hKL
  clear hKL
  obtain ⟨xk, xn⟩ := x
  simp only
  go_enter Try.func18, Try.ntmps18
  go_wp2_with (at_builtin; refine wpList_append_sep rfl _ _ 24 rfl base 42 i0 (.agg #[.int .i64 0, .int .i64 0]) 2 16 Try.underlying24 Hi.out hz0 hz1 hz2 rfl (by decide) _ n xs rfl ((HO.out.alloc _).alloc _) ⟨w.heap.size + 1, 0, none⟩ 1 1 [.int .i64 xk, .int .i64 xn] rfl rfl (c2_news (by have := heap_alloc_new (w.alloc (.cells #[.int .i64 xk, .int .i64 xn, .slice sad KL sc] 37)) (.cells #[.int .i64 xk, .int .i64 xn] 42); simpa using this)) (c2_one _ _) M1.out (by omega) (by simp; omega) ?_)
  intro v1 w1 hown1 hgrow1 hap1
  obtain ⟨ad1, c1, rfl⟩ := iOwn_form hown1
  have hol : ∀ k, (Value.slice ad n c).ownBlock = some k → k < w.heap.size := fun k hk => (HO.out.lt k hk).2
  have HO1 := hide hown1
  have g1 : w.grownBy w1 (Value.slice ad n c).ownBlock := grownT (grownA w (.cells #[.int .i64 xk, .int .i64 xn, .slice sad KL sc] 37) _) (grownT (grownA _ (.cells #[.int .i64 xk, .int .i64 xn] 42) _) hgrow1 (fun k hk => .inl hk)) (fun k hk => .inl hk)
  have HG1 := hide g1
  have HA1 : Hid (Apart w (.slice ad n c) (.slice ad1 (n + 1) c1)) := hide (fun g hg => by
    rcases hap1 g hg with h | h
    · exact .inl h
    · right; simp at h; omega)
  have y2 : w1.cell? ⟨w.heap.size, 2, none⟩ = some (.slice sad KL sc) := hgrow1.cell (a := ⟨w.heap.size, 2, none⟩) (by simp) (fun e => by have := hol w.heap.size e.symm; omega)
  have HP : Hid (KidT w (fun g => P g ∧ g < w.heap.size) k (.slice sad KL sc)) := hide (HT.out.weak (fun g h1 h2 => ⟨h1, h2⟩))
  clear hown1 hgrow1 hap1 g1
  go_wp2_with fail
  clear y2
  go_loopw [1, 18] (fun v1 i w' => ∃ a b : F, k = a.app b ∧ i = .int .i64 (a.len : Int) ∧ w'.ownsRow base 42 2 v1 (n + (a.flat.length + 1)) (xs ++ cv (⟨xk, xn⟩ :: a.flat)) ∧ w.grownBy w' (Value.slice ad n c).ownBlock ∧ Apart w (.slice ad n c) v1) (fun _ i _ => KL - (intOf i).toNat)
  case atStart => exact ⟨.nil, k, rfl, rfl, HO1.out, HG1.out, HA1.out⟩
  case round =>
    obtain ⟨a, b, hk, rfl, hown, hg, hap⟩ := hrel
    obtain ⟨rad, rc, hform⟩ := iOwn_form hown
    subst hform
    have HOr := hide hown
    have HGr := hide hg
    have HAr := hide hap
    clear hown hg hap HO1 HG1 HA1
    cases b with
    | nil =>
      rw [F.app_nil] at hk
      subst hk
      have hKL := HKL.out
      rw [← hKL]
      clear hKL
      go_wp2_with fail
      go_ret
      exact ⟨_, rfl, HOr.out, HGr.out, HAr.out⟩
    | cons y ky b =>
      have hkl2 : KL = a.len + (b.len + 1) := by rw [HKL.out, hk, F.app_len]; rfl
      have hlt' : (a.len : Int) < (KL : Int) := by omega
      have hfk : k.flat.length = a.flat.length + (1 + ky.flat.length + b.flat.length) := by rw [hk, F.app_flat]; simp [F.flat]; omega
      have hI := IH.out
      rw [hk] at hI
      obtain ⟨g, cap, sy, he, hPg, hg, hTy, p0, p1, p2⟩ := KidT.kid (a := a) (k := ky) (r := b) (x := y) (s := .slice sad KL sc) (by rw [← hk]; exact HP.out)
      simp only [Value.slice.injEq] at he
      obtain ⟨rfl, -, rfl⟩ := he
      have hng : (Value.slice ad n c).ownBlock ≠ some g := HSep.out g hPg.1 hPg.2
      have q0 := HGr.out.cell p0 (fun e => hng e.symm)
      have q1 := HGr.out.cell p1 (fun e => hng e.symm)
      have q2 := HGr.out.cell p2 (fun e => hng e.symm)
      have hszr := HGr.out.size
      have hkeep : ∀ g, (P g ∧ g < w.heap.size) → g < w.heap.size → wr.heap[g]? = w.heap[g]? ∧ (P g ∧ g < w.heap.size) := fun g h1 h2 => ⟨HGr.out.block g h2 (fun e => HSep.out g h1.1 h1.2 e.symm), h1⟩
      have hTr : KidT wr (fun g => P g ∧ g < w.heap.size) ky sy := hTy.keep hszr hkeep
      have hse : ∀ g, (P g ∧ g < w.heap.size) → (Value.slice rad (n + (a.flat.length + 1)) rc).ownBlock ≠ some g := fun g h1 e => by
        rcases HAr.out g e with h | h
        · exact HSep.out g h1.1 h1.2 h
        · omega
      have HC := hide (F.all_at hI y sy (.slice rad (n + (a.flat.length + 1)) rc) base (n + (a.flat.length + 1)) (xs ++ cv (⟨xk, xn⟩ :: a.flat)) (fun g => P g ∧ g < w.heap.size) (wr.alloc (.cells #[.int .i64 y.k, .int .i64 y.n, sy] 37)) (fun g h1 _ => hse g h1) (by omega) (by simp; omega) (hTr.below ((Below.refl _ _).alloc (Nat.le_refl _) _)) (HOr.out.alloc _))
      obtain ⟨yad, yc, rfl⟩ := hTy.form
      have HSn := hide (hk.trans (F.app_snoc a ky b y))
      have HDl : Hid ((a.app (.cons y ky .nil)).len = a.len + 1) := hide (by rw [F.app_len]; rfl)
      have HDf : Hid ((a.app (.cons y ky .nil)).flat = a.flat ++ (y :: ky.flat)) := hide (by rw [F.app_flat]; simp [F.flat])
      have HKl2 := hide hkl2
      clear p0 p1 p2 hTy hTr hI hk hkl2 hfk hkeep hse
      obtain ⟨al, hal⟩ : ∃ al, al = a.len := ⟨_, rfl⟩
      obtain ⟨kn, hkn⟩ : ∃ kn, kn = ky.len := ⟨_, rfl⟩
      obtain ⟨NN, hNN⟩ : ∃ NN, NN = n + (a.flat.length + 1) := ⟨_, rfl⟩
      rw [← hal] at hlt' q0 q1 q2 HDl HKl2 ⊢
      rw [← hkn] at HC q2
      rw [← hNN] at HC HOr HAr ⊢
      have HNN := hide hNN
      clear hal hkn hNN
      go_wp2_with fail
      refine Calls.mono HC.out ?_
      rintro e w2 ⟨v2, rfl, ho2, hg2, ha2⟩
      obtain ⟨ad2, c2, rfl⟩ := iOwn_form ho2
      have HO2 := hide ho2
      have HG2 : Hid (w.grownBy w2 (Value.slice ad n c).ownBlock) := hide (grownT (grownT HGr.out (grownA wr _ _) (fun k hk => .inl hk)) hg2 (fun k hk => HAr.out k hk))
      have HA2 : Hid (Apart w (.slice ad n c) (.slice ad2 (NN + (ky.flat.length + 1)) c2)) := hide (apartT HAr.out ha2 (by simp; omega))
      clear ho2 hg2 ha2 HC q0 q1 q2
      go_wp2_with fail
      have hkl2 := HKl2.out
      refine ⟨⟨a.app (.cons y ky .nil), b, HSn.out, by rw [HDl.out]; go_num, ?_, HG2.out, HA2.out⟩, by simp [intOf]; omega⟩
      have h3 := HO2.out
      rw [HDf.out]
      have e1 : n + ((a.flat ++ (y :: ky.flat)).length + 1) = NN + (ky.flat.length + 1) := by rw [HNN.out]; simp; omega
      have e2 : xs ++ cv (⟨xk, xn⟩ :: (a.flat ++ (y :: ky.flat))) = xs ++ cv (⟨xk, xn⟩ :: a.flat) ++ cv (y :: ky.flat) := by rw [← List.cons_append, cv_app, List.append_assoc]
      rw [e1, e2]
      exact h3

set_option maxRecDepth 20000 in
set_option maxHeartbeats 1000000 in
theorem l3Tell_any (x : Cc) (k : F) (s : Value) (P : Nat → Prop) (w : World) (hl : k.flat.length + 1 ≤ 1048576) (hT : KidT w P k s) :
    Calls Try.prog 32 #[.agg #[.int .i64 x.k, .int .i64 x.n, s]] w fun e w' => ∃ s', e = .returned (.tuple #[s', .bool (goodT (x :: k.flat))]) ∧ w'.ownsRow w.heap.size 42 2 s' (gd (x :: k.flat)).length (cv (gd (x :: k.flat))) ∧ Below w.heap.size w w' := by
  obtain ⟨sad, sc, rfl⟩ := hT.form
  have HT := hide hT
  obtain ⟨cs, hcs⟩ : ∃ cs, cs = x :: k.flat := ⟨_, rfl⟩
  have hlc : cs.length ≤ 1048576 := by rw [hcs]; simpa using hl
  have HC := hide (fun (w' : World) (hw : Below w.heap.size w w') => l3Flat_any k x (.slice sad k.len sc) (.slice none 0 0) w.heap.size 0 [] P w' (fun g _ _ => by simp [Value.ownBlock]) (by omega) hw.size (HT.out.below hw) (World.ownsRow_nil _ _ _ _))
  have hlen : 0 + (k.flat.length + 1) = cs.length := by rw [hcs]; simp
  rw [hlen, List.nil_append, ← hcs] at HC
  rw [← hcs]
  have HG := hide (fun (ad : Option Addr) (c : Nat) (w : World) (h : CRow w ad cs) => specGoodT_any ad c cs w hlc h)
  obtain ⟨KL, hKL⟩ : ∃ KL, KL = k.len := ⟨_, rfl⟩
  rw [← hKL] at HT HC ⊢
  clear hT hcs hlen hKL
  by_cases hgd : goodT cs = true
  · have e1 : gd cs = cs := if_pos hgd
    rw [e1, hgd]
    rw [hgd] at HG
    clear hgd e1
    go_enter Try.func32, Try.ntmps32
    go_wp2_with fail
    refine Calls.mono (HC.out _ ((Below.refl _ _).alloc (Nat.le_refl _) _)) ?_
    rintro e w1 ⟨v1, rfl, ho1, hg1, -⟩
    obtain ⟨ad, c, rfl, hlc2, hR⟩ := cOwn_row ho1
    have HO := hide ho1
    have HR := hide hR
    have hB1 : Below w.heap.size w w1 := ((Below.refl _ _).alloc (Nat.le_refl _) _).trans ⟨hg1.os, hg1.tape, hg1.output, hg1.size, fun k hk => hg1.block k (by simp; omega) (by simp [Value.ownBlock])⟩
    clear ho1 hR hg1
    go_wp2_with fail
    refine (HG.out _ _ _ HR.out).mono ?_
    rintro e w2 ⟨rfl, hb2⟩
    have hB2 : Below w.heap.size w w2 := hB1.trans (hb2.mono hB1.size)
    have HO2 := hide (tOwn_keep HO.out (fun k _ hk => hb2.block k hk))
    clear hb2
    go_wp2_with fail
    exact bodyPost_ret (v := .tuple #[.slice ad cs.length c, .bool true]) (by simp [results, Try.results32, go_sem]) rfl ⟨_, rfl, HO2.out, hB2⟩
  · have e1 : gd cs = [] := if_neg hgd
    rw [Bool.not_eq_true] at hgd
    rw [e1, hgd]
    rw [hgd] at HG
    clear hgd e1
    go_enter Try.func32, Try.ntmps32
    go_wp2_with fail
    refine Calls.mono (HC.out _ ((Below.refl _ _).alloc (Nat.le_refl _) _)) ?_
    rintro e w1 ⟨v1, rfl, ho1, hg1, -⟩
    obtain ⟨ad, c, rfl, hlc2, hR⟩ := cOwn_row ho1
    have HO := hide ho1
    have HR := hide hR
    have hB1 : Below w.heap.size w w1 := ((Below.refl _ _).alloc (Nat.le_refl _) _).trans ⟨hg1.os, hg1.tape, hg1.output, hg1.size, fun k hk => hg1.block k (by simp; omega) (by simp [Value.ownBlock])⟩
    clear ho1 hR hg1
    go_wp2_with fail
    refine (HG.out _ _ _ HR.out).mono ?_
    rintro e w2 ⟨rfl, hb2⟩
    have hB2 : Below w.heap.size w w2 := hB1.trans (hb2.mono hB1.size)
    have HO2 := hide (tOwn_keep HO.out (fun k _ hk => hb2.block k hk))
    clear hb2
    go_wp2_with fail
    exact bodyPost_ret (v := .tuple #[.slice none 0 0, .bool false]) (by simp [results, Try.results32, go_sem]) rfl ⟨_, rfl, World.ownsRow_nil _ _ _ _, hB2⟩
end Go.Proofs.Ytnmkbpflbfhpnaa.W

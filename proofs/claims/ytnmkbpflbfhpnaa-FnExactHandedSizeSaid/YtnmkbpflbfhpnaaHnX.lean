/-
  The specification's terms that hand on: contracts of l7Hand and l7Of. Conditions: as the theorems state.
-/
import Derived.Test.YtnmkbpflbfhpnaaHnW
import Derived.Test.YtnmkbpflbfhpnaaHnJ
import Derived.Test.YtnmkbpflbfhpnaaTeT
namespace Go.Proofs.Ytnmkbpflbfhpnaa.W
open Go.ChangeShapes Go.WideShapes Go.ChangeAt Go.RowKit
set_option linter.unusedVariables false

theorem hn_one (x : Cc) (k : F) : hn (.cons x k .nil) = hn1 x k (hn k) := by rw [hn, show hn .nil = .nil from rfl, F.app_nil]
/-- What is made of a part is small, and its variables are near. -/
theorem hn1_small {x : Cc} {k : F} (hg : goodC x = true) (hk : k.len = ar x.k) (ho : k.ok) (hl : k.flat.length ≤ 600) : (hn1 x k (hn k)).okw ∧ (hn1 x k (hn k)).flat.length ≤ 1000000 ∧ (hn1 x k (hn k)).len = 1 := by
  have h : (F.cons x k .nil).ok := ⟨hg, hk, ho, trivial⟩
  have e : (F.cons x k .nil).flat.length = k.flat.length + 1 := by simp [F.flat]
  have h1 := hn_okv _ h
  have h2 := hn_size _ h
  rw [hn_one] at h1 h2
  exact ⟨okv_okw (by omega) h1, by omega, hn1_len _ _ _⟩

def L7HGoal (k : F) : Prop := ∀ x : Cc, goodC x = true → k.len = ar x.k → k.ok → k.flat.length ≤ 600 → HHd x k (hn1 x k (hn k))
theorem l7Hand_any : ∀ k, L7HGoal k := by
  apply F.rec_kids
  intro k ih x hg hk ho hl P s w hT
  have hin := good_ar hg
  simp only [inB, Bool.and_eq_true, decide_eq_true_eq] at hin
  obtain ⟨xk, xn⟩ := x
  simp only at *
  have hx : xk = 1 ∨ xk = 2 ∨ xk = 3 ∨ xk = 4 ∨ xk = 5 ∨ xk = 6 ∨ xk = 7 := by omega
  rcases hx with h | h | h | h | h | h | h
  · subst h
    obtain rfl : k = .nil := F.len_0 (by rw [hk]; rfl)
    have h0 : 0 ≤ xn ∧ xn ≤ 99 := by unfold goodC at hg; rw [if_pos rfl] at hg; unfold inB at hg; simp at hg; omega
    exact hand_var xn s P w h0.1 (by omega) hT
  · subst h
    obtain rfl : k = .nil := F.len_0 (by rw [hk]; rfl)
    exact hand_num xn s P w hT
  · subst h
    obtain ⟨y, ky, rfl⟩ := F.len_1 (a := k) (by rw [hk]; rfl)
    obtain ⟨gy, ly, oy, -⟩ := ho
    have hy : ky.flat.length ≤ 600 := by simp [F.flat] at hl; omega
    obtain ⟨s1, s2, s3⟩ := hn1_small gy ly oy hy
    have e : hn1 ⟨3, xn⟩ (.cons y ky .nil) (hn (.cons y ky .nil)) = lamT (appT (varT 0) (lamT (sh 1 1 (hn1 y ky (hn ky))))) := by
      rw [hn1, if_neg (by simp), if_pos rfl, nt_hn_0]
    rw [e]
    exact hand_lam xn y ky _ s P w (ih.1 y gy ly oy hy) s1 s2 s3 hT
  · subst h
    obtain ⟨y, ky, z, kz, rfl⟩ := two_of (k := k) (by rw [hk]; rfl)
    obtain ⟨gy, ly, oy, gz, lz, oz, -⟩ := ho
    have hy : ky.flat.length ≤ 600 := by simp [F.flat] at hl; omega
    have hz : kz.flat.length ≤ 600 := by simp [F.flat] at hl; omega
    obtain ⟨s1, s2, s3⟩ := hn1_small gy ly oy hy
    obtain ⟨t1, t2, t3⟩ := hn1_small gz lz oz hz
    have e : hn1 ⟨4, xn⟩ (.cons y ky (.cons z kz .nil)) (hn (.cons y ky (.cons z kz .nil))) = lamT (appT (sh 1 0 (hn1 y ky (hn ky))) (lamT (appT (sh 2 0 (hn1 z kz (hn kz))) (lamT (appT (appT (varT 1) (varT 0)) (varT 2)))))) := by
      rw [hn1, if_neg (by simp), if_neg (by simp), if_pos rfl, two, nt_hn_0, nt_hn_s, nt_hn_0]
    rw [e]
    exact hand_app xn y ky _ z kz _ s P w (ih.1 y gy ly oy hy) s1 s2 s3 (ih.2.1 z gz lz oz hz) t1 t2 t3 hT
  · subst h
    obtain ⟨y, ky, z, kz, rfl⟩ := two_of (k := k) (by rw [hk]; rfl)
    obtain ⟨gy, ly, oy, gz, lz, oz, -⟩ := ho
    have hy : ky.flat.length ≤ 600 := by simp [F.flat] at hl; omega
    have hz : kz.flat.length ≤ 600 := by simp [F.flat] at hl; omega
    obtain ⟨s1, s2, s3⟩ := hn1_small gy ly oy hy
    obtain ⟨t1, t2, t3⟩ := hn1_small gz lz oz hz
    have e : hn1 ⟨5, xn⟩ (.cons y ky (.cons z kz .nil)) (hn (.cons y ky (.cons z kz .nil))) = lamT (appT (sh 1 0 (hn1 y ky (hn ky))) (lamT (appT (sh 2 0 (hn1 z kz (hn kz))) (lamT (appT (varT 2) (addT (varT 1) (varT 0))))))) := by
      rw [hn1, if_neg (by simp), if_neg (by simp), if_neg (by simp), if_pos rfl, two, nt_hn_0, nt_hn_s, nt_hn_0]
    rw [e]
    exact hand_add xn y ky _ z kz _ s P w (ih.1 y gy ly oy hy) s1 s2 s3 (ih.2.1 z gz lz oz hz) t1 t2 t3 hT
  · subst h
    obtain ⟨y, ky, z, kz, u, ku, rfl⟩ := three_of (k := k) (by rw [hk]; rfl)
    obtain ⟨gy, ly, oy, gz, lz, oz, gu, lu, ou, -⟩ := ho
    have hy : ky.flat.length ≤ 600 := by simp [F.flat] at hl; omega
    have hz : kz.flat.length ≤ 600 := by simp [F.flat] at hl; omega
    have hu : ku.flat.length ≤ 600 := by simp [F.flat] at hl; omega
    obtain ⟨s1, s2, s3⟩ := hn1_small gy ly oy hy
    obtain ⟨t1, t2, t3⟩ := hn1_small gz lz oz hz
    obtain ⟨r1, r2, r3⟩ := hn1_small gu lu ou hu
    have e : hn1 ⟨6, xn⟩ (.cons y ky (.cons z kz (.cons u ku .nil))) (hn (.cons y ky (.cons z kz (.cons u ku .nil)))) = lamT (appT (sh 1 0 (hn1 y ky (hn ky))) (lamT (ifT (varT 0) (appT (sh 2 0 (hn1 z kz (hn kz))) (varT 1)) (appT (sh 2 0 (hn1 u ku (hn ku))) (varT 1))))) := by
      rw [hn1, if_neg (by simp), if_neg (by simp), if_neg (by simp), if_neg (by simp), if_pos rfl, nt_hn_0, nt_hn_s, nt_hn_0, nt_hn_s, nt_hn_s, nt_hn_0]
    rw [e]
    exact hand_if xn y ky _ z kz _ u ku _ s P w (ih.1 y gy ly oy hy) s1 s2 s3 (ih.2.1 z gz lz oz hz) t1 t2 t3 (ih.2.2.1 u gu lu ou hu) r1 r2 r3 hT
  · subst h
    obtain ⟨y, ky, z, kz, rfl⟩ := two_of (k := k) (by rw [hk]; rfl)
    obtain ⟨gy, ly, oy, gz, lz, oz, -⟩ := ho
    have hy : ky.flat.length ≤ 600 := by simp [F.flat] at hl; omega
    have hz : kz.flat.length ≤ 600 := by simp [F.flat] at hl; omega
    obtain ⟨s1, s2, s3⟩ := hn1_small gy ly oy hy
    obtain ⟨t1, t2, t3⟩ := hn1_small gz lz oz hz
    have e : hn1 ⟨7, xn⟩ (.cons y ky (.cons z kz .nil)) (hn (.cons y ky (.cons z kz .nil))) = lamT (appT (sh 1 0 (hn1 y ky (hn ky))) (lamT (appT (sh 1 1 (hn1 z kz (hn kz))) (varT 1)))) := by
      rw [hn1, if_neg (by simp), if_neg (by simp), if_neg (by simp), if_neg (by simp), if_neg (by simp), if_pos rfl, nt_hn_0, nt_hn_s, nt_hn_0]
    rw [e]
    exact hand_let xn y ky _ z kz _ s P w (ih.1 y gy ly oy hy) s1 s2 s3 (ih.2.1 z gz lz oz hz) t1 t2 t3 hT

/-- What l7Of answers. -/
def OfV (w : World) (l : List Cc) (e : Ending) : Prop :=
  if hoB l = true then ∃ b v, hoR l = some b ∧ e = .returned (.tuple #[v, .bool true]) ∧ TV w AnyQ b v
  else e = .returned (.tuple #[.agg #[.int .i64 0, .int .i64 0, .slice none 0 0], .bool false])

set_option maxRecDepth 20000 in
set_option maxHeartbeats 4000000 in
theorem l7Of_any (ad : Option Addr) (c : Nat) (l : List Cc) (w : World) (hl : l.length ≤ 1048576) (h : CRow w ad l) :
    Calls Try.prog 17 #[.slice ad l.length c] w fun e w' => OfV w' l e ∧ Below w.heap.size w w' := by
  have hB0 : Below w.heap.size w (w.alloc (.cells #[.int .i64 0, .int .i64 0, .slice none 0 0] 37)) := bel1 _ _
  have HC := hide (l3Tree_any ad c l _ hl (h.below hB0))
  clear h
  cases ht : treeT l with
  | none =>
    have hb : hoB l = false := by unfold hoB hoR closedT; rw [ht]
    unfold OfV
    rw [hb]
    rw [ht] at HC
    clear ht hb
    go_enter Try.func17, Try.ntmps17
    go_wp2_with fail
    refine Calls.mono HC.out ?_
    rintro e w1 ⟨hb1, k, n, sad, sn, sc, rfl⟩
    have h0 := (hb1.block w.heap.size (by simp)).trans (heap_alloc_new _ _)
    have HB1 := hide (hB0.trans (hb1.mono hB0.size))
    have hlt := (Array.getElem?_eq_some_iff.1 h0).1
    have z0 : w1.cell? ⟨w.heap.size, 0, none⟩ = some (.int .i64 0) := (cell_of_blk h0 0).trans rfl
    have z1 : w1.cell? ⟨w.heap.size, 1, none⟩ = some (.int .i64 0) := (cell_of_blk h0 1).trans rfl
    have z2 : w1.cell? ⟨w.heap.size, 2, none⟩ = some (.slice none 0 0) := (cell_of_blk h0 2).trans rfl
    have fz := unfrozen_of_blk h0
    clear hb1 h0 HC
    go_wp2_with fail
    exact bodyPost_ret (v := .tuple #[.agg #[.int .i64 0, .int .i64 0, .slice none 0 0], .bool false]) (by simp [results, Try.results17, go_sem, *]) rfl ⟨rfl, (below_set3 HB1.out (Nat.le_refl _) _ _ _).alloc (below_set3 HB1.out (Nat.le_refl _) (.int .i64 0) (.int .i64 0) (.slice none 0 0)).size _⟩
  | some a =>
    rw [ht] at HC
    obtain ⟨t1, t2, t3, t4, -⟩ := treeT_flat ht
    obtain ⟨x, k, rfl⟩ := F.len_1 t3
    obtain ⟨g1, l1, o1, -⟩ := ok_cons t2
    have hn := good_n g1
    have hkf : k.flat.length ≤ 600 := by rw [t1] at t4; simp [F.flat] at t4; omega
    by_cases h40 : l.length ≤ 40
    · have h40' : ¬ (40 : Int) < (l.length : Int) := by omega
      by_cases hfr : fr1 0 x k [] = []
      · have hR : hoR l = some (hn1 x k (W.hn k)) := by
          unfold hoR closedT
          rw [ht]
          simp only
          rw [if_pos (show freT (.cons x k .nil) = [] from hfr)]
          simp only
          rw [if_pos h40, hn_one]
        have hB : hoB l = goodT (hn1 x k (W.hn k)).flat := by unfold hoB; rw [hR]
        obtain ⟨q1, q2, q3⟩ := hn1_small g1 l1 o1 hkf
        have HHn := hide (l7Hand_any k x g1 l1 o1 hkf)
        unfold HHd at HHn
        have HFt := hide (V.F.okw_fit q1)
        have HR := hide hR
        have HBo := hide hB
        have HLb := hide q2
        have HF := hide (fun (s : Value) (P : Nat → Prop) => l3Free_any k x s (.slice none 0 0) 0 [] P)
        have HO := hide o1
        have HL := hide l1
        rw [hfr] at HF
        rw [show ((0 : Nat) : Int) = 0 from rfl] at HF
        clear hR hB q1 q2 q3 hfr ht t1 t2 t3 t4 g1 o1 l1
        obtain ⟨b, hbq⟩ : ∃ b, b = hn1 x k (W.hn k) := ⟨_, rfl⟩
        rw [← hbq] at HHn HFt HR HBo HLb
        unfold OfV
        obtain ⟨G, hG⟩ : ∃ G, G = hoB l := ⟨_, rfl⟩
        rw [← hG] at HBo ⊢
        clear hbq hG
        go_enter Try.func17, Try.ntmps17
        go_wp2_with fail
        refine Calls.mono HC.out ?_
        rintro e w1 ⟨hb1, ho⟩
        obtain ⟨x', k', s, hxe, rfl, hK⟩ := ho
        simp only [F.cons.injEq, and_true] at hxe
        obtain ⟨rfl, rfl⟩ := hxe
        have HK := hide hK
        obtain ⟨sad, sc, rfl⟩ := hK.form
        obtain ⟨KL, hKL⟩ : ∃ KL, KL = k.len := ⟨_, rfl⟩
        rw [← hKL] at HK ⊢
        have H1 := hide ((hb1.block w.heap.size (by simp)).trans (heap_alloc_new _ _))
        have HB1 := hide (hB0.trans (hb1.mono hB0.size))
        have hlt := (Array.getElem?_eq_some_iff.1 H1.out).1
        clear hb1 HC hK hKL
        go_wp2_with fail
        refine Calls.mono (HF.out _ _ _ hn.1 hn.2 HL.out HO.out (by omega) (by simp; omega) (HK.out.below (bel1 _ _)) (.inl ⟨rfl, rfl⟩)) ?_
        rintro e w2 ⟨s2, rfl, hs2, hb2⟩
        obtain ⟨pad, pc, rfl⟩ := hs2.form
        have H2 : Hid (w2.heap[w.heap.size]? = some (.cells #[.int .i64 0, .int .i64 0, .slice none 0 0] 37)) := hide ((hb2.block w.heap.size (by simp; omega)).trans ((heap_alloc_old _ _ hlt).trans H1.out))
        have HX2 := hide ((hb2.block w1.heap.size (by simp)).trans (heap_alloc_new _ _))
        have hX0 : w2.cell? ⟨w1.heap.size, 0, none⟩ = some (.int .i64 x.k) := (cell_of_blk HX2.out 0).trans rfl
        have hX1 : w2.cell? ⟨w1.heap.size, 1, none⟩ = some (.int .i64 x.n) := (cell_of_blk HX2.out 1).trans rfl
        have hX2 : w2.cell? ⟨w1.heap.size, 2, none⟩ = some (.slice sad KL sc) := (cell_of_blk HX2.out 2).trans rfl
        have HK2 := hide ((HK.out.below (bel1 _ _)).below hb2)
        have HB2 := hide ((HB1.out.alloc HB1.out.size _).trans (hb2.mono (HB1.out.alloc HB1.out.size _).size))
        clear hs2 hb2 HF HK
        go_wp2_with fail
        refine Calls.mono (HHn.out _ _ _ HK2.out) ?_
        rintro e w3 ⟨v3, rfl, hv3, hb3⟩
        obtain ⟨xb, kb, sb, hbe, rfl, hKb⟩ := hv3
        have HV3 : Hid (TV w3 AnyQ b (.agg #[.int .i64 xb.k, .int .i64 xb.n, sb])) := hide ⟨xb, kb, sb, hbe, rfl, hKb⟩
        have HT3 := hide hKb
        obtain ⟨bad, bc, rfl⟩ := hKb.form
        obtain ⟨BL, hBL⟩ : ∃ BL, BL = kb.len := ⟨_, rfl⟩
        rw [← hBL] at HV3 HT3 ⊢
        have hlb : kb.flat.length + 1 ≤ 1048576 := by have := HLb.out; rw [hbe] at this; simp [F.flat] at this; omega
        have HTl := hide (fun (w' : World) (hT : KidT w' AnyQ kb (.slice bad BL bc)) => l3Tell_any xb kb _ AnyQ w' hlb hT)
        have hbf : xb :: kb.flat = b.flat := by rw [hbe]; simp [F.flat]
        rw [hbf, ← HBo.out] at HTl
        have H3 := hide ((hb3.block w.heap.size (Array.getElem?_eq_some_iff.1 H2.out).1).trans H2.out)
        have HB3 := hide (HB2.out.trans (hb3.mono HB2.out.size))
        have hl3 := (Array.getElem?_eq_some_iff.1 H3.out).1
        clear hb3 hKb HHn HX2 hX0 hX1 hX2 hbe hBL hbf hlb
        go_wp2_with fail
        refine Calls.mono (HTl.out _ (HT3.out.below (bel1 _ _))) ?_
        rintro e w4 ⟨s4, rfl, ho4, hb4⟩
        obtain ⟨ta, tc, rfl⟩ := own_form ho4
        have h0 := (hb4.block w.heap.size (by simp; omega)).trans ((heap_alloc_old _ _ hl3).trans H3.out)
        have hY := (hb4.block w3.heap.size (by simp)).trans (heap_alloc_new _ _)
        have y0 : w4.cell? ⟨w3.heap.size, 0, none⟩ = some (.int .i64 xb.k) := (cell_of_blk hY 0).trans rfl
        have y1 : w4.cell? ⟨w3.heap.size, 1, none⟩ = some (.int .i64 xb.n) := (cell_of_blk hY 1).trans rfl
        have y2 : w4.cell? ⟨w3.heap.size, 2, none⟩ = some (.slice bad BL bc) := (cell_of_blk hY 2).trans rfl
        have z0 : w4.cell? ⟨w.heap.size, 0, none⟩ = some (.int .i64 0) := (cell_of_blk h0 0).trans rfl
        have z1 : w4.cell? ⟨w.heap.size, 1, none⟩ = some (.int .i64 0) := (cell_of_blk h0 1).trans rfl
        have z2 : w4.cell? ⟨w.heap.size, 2, none⟩ = some (.slice none 0 0) := (cell_of_blk h0 2).trans rfl
        have fz := unfrozen_of_blk h0
        have H0 := hide h0
        have HB4 := hide ((HB3.out.alloc HB3.out.size _).trans (hb4.mono (HB3.out.alloc HB3.out.size _).size))
        have HV4 := hide ((HV3.out.below (bel1 _ _)).below hb4)
        clear h0 hY hb4 ho4 HTl
        cases G with
        | false =>
          go_wp2_with fail
          exact bodyPost_ret (v := .tuple #[.agg #[.int .i64 0, .int .i64 0, .slice none 0 0], .bool false]) (by simp [results, Try.results17, go_sem, *]) rfl ⟨rfl, below_set3 HB4.out (Nat.le_refl _) _ _ _⟩
        | true =>
          go_wp2_with fail
          have hre := set3_at H0.out (.int .i64 xb.k) (.int .i64 xb.n) (.slice bad BL bc)
          have r0 := (cell_of_blk hre 0).trans rfl
          have r1 := (cell_of_blk hre 1).trans rfl
          have r2 := (cell_of_blk hre 2).trans rfl
          exact bodyPost_ret (v := .tuple #[.agg #[.int .i64 xb.k, .int .i64 xb.n, .slice bad BL bc], .bool true]) (by simp [results, Try.results17, go_sem, r0, r1, r2]) rfl ⟨⟨b, HR.out, _, rfl, HV4.out.set3 HFt.out H0.out _ _ _⟩, below_set3 HB4.out (Nat.le_refl _) _ _ _⟩
      · have hb : hoB l = false := by
          unfold hoB hoR closedT
          rw [ht]
          simp only
          rw [if_neg (show ¬ freT (.cons x k .nil) = [] from hfr)]
        unfold OfV
        rw [hb]
        have HF := hide (fun (s : Value) (P : Nat → Prop) => l3Free_any k x s (.slice none 0 0) 0 [] P)
        have HO := hide o1
        have HL := hide l1
        have hfl : (0 : Int) < ((fr1 0 x k []).length : Int) := by
          cases h : fr1 0 x k [] with
          | nil => exact absurd h hfr
          | cons p q => simp
        obtain ⟨FL, hFL⟩ : ∃ FL, FL = fr1 0 x k [] := ⟨_, rfl⟩
        rw [← hFL] at HF hfl
        rw [show ((0 : Nat) : Int) = 0 from rfl] at HF
        clear hb hfr ht t1 t2 t3 t4 g1 o1 l1 hFL
        go_enter Try.func17, Try.ntmps17
        go_wp2_with fail
        refine Calls.mono HC.out ?_
        rintro e w1 ⟨hb1, ho⟩
        obtain ⟨x', k', s, hxe, rfl, hK⟩ := ho
        simp only [F.cons.injEq, and_true] at hxe
        obtain ⟨rfl, rfl⟩ := hxe
        have HK := hide hK
        obtain ⟨sad, sc, rfl⟩ := hK.form
        obtain ⟨KL, hKL⟩ : ∃ KL, KL = k.len := ⟨_, rfl⟩
        rw [← hKL] at HK ⊢
        have H1 := hide ((hb1.block w.heap.size (by simp)).trans (heap_alloc_new _ _))
        have HB1 := hide (hB0.trans (hb1.mono hB0.size))
        have hlt := (Array.getElem?_eq_some_iff.1 H1.out).1
        clear hb1 HC hK hKL
        go_wp2_with fail
        refine Calls.mono (HF.out _ _ _ hn.1 hn.2 HL.out HO.out (by omega) (by simp; omega) (HK.out.below (bel1 _ _)) (.inl ⟨rfl, rfl⟩)) ?_
        rintro e w2 ⟨s2, rfl, hs2, hb2⟩
        obtain ⟨pad, pc, rfl⟩ := hs2.form
        have h0 := (hb2.block w.heap.size (by simp; omega)).trans ((heap_alloc_old _ _ hlt).trans H1.out)
        have z0 : w2.cell? ⟨w.heap.size, 0, none⟩ = some (.int .i64 0) := (cell_of_blk h0 0).trans rfl
        have z1 : w2.cell? ⟨w.heap.size, 1, none⟩ = some (.int .i64 0) := (cell_of_blk h0 1).trans rfl
        have z2 : w2.cell? ⟨w.heap.size, 2, none⟩ = some (.slice none 0 0) := (cell_of_blk h0 2).trans rfl
        have fz := unfrozen_of_blk h0
        have HB2 := hide ((HB1.out.alloc HB1.out.size _).trans (hb2.mono (HB1.out.alloc HB1.out.size _).size))
        clear hs2 hb2 HF HK h0
        go_wp2_with fail
        exact bodyPost_ret (v := .tuple #[.agg #[.int .i64 0, .int .i64 0, .slice none 0 0], .bool false]) (by simp [results, Try.results17, go_sem, *]) rfl ⟨rfl, below_set3 HB2.out (Nat.le_refl _) _ _ _⟩
    · have h40' : (40 : Int) < (l.length : Int) := by omega
      have hb : hoB l = false := by
        cases hR : hoR l with
        | none => unfold hoB; rw [hR]
        | some q => obtain ⟨_, _, h, _⟩ := hoR_some hR; exact absurd h h40
      unfold OfV
      rw [hb]
      clear hb ht t1 t2 t3 t4 g1 o1 l1
      go_enter Try.func17, Try.ntmps17
      go_wp2_with fail
      refine Calls.mono HC.out ?_
      rintro e w1 ⟨hb1, ho⟩
      obtain ⟨x', k', s, hxe, rfl, hK⟩ := ho
      obtain ⟨sad, sc, rfl⟩ := hK.form
      obtain ⟨KL, hKL⟩ : ∃ KL, KL = k'.len := ⟨_, rfl⟩
      rw [← hKL]
      have h0 := (hb1.block w.heap.size (by simp)).trans (heap_alloc_new _ _)
      have hlt := (Array.getElem?_eq_some_iff.1 h0).1
      have z0 : w1.cell? ⟨w.heap.size, 0, none⟩ = some (.int .i64 0) := (cell_of_blk h0 0).trans rfl
      have z1 : w1.cell? ⟨w.heap.size, 1, none⟩ = some (.int .i64 0) := (cell_of_blk h0 1).trans rfl
      have z2 : w1.cell? ⟨w.heap.size, 2, none⟩ = some (.slice none 0 0) := (cell_of_blk h0 2).trans rfl
      have fz := unfrozen_of_blk h0
      have HB1 := hide (hB0.trans (hb1.mono hB0.size))
      clear hb1 HC hK hKL h0 hxe
      go_wp2_with fail
      exact bodyPost_ret (v := .tuple #[.agg #[.int .i64 0, .int .i64 0, .slice none 0 0], .bool false]) (by simp [results, Try.results17, go_sem, *]) rfl ⟨rfl, (below_set3 HB1.out (Nat.le_refl _) _ _ _).alloc (below_set3 HB1.out (Nat.le_refl _) (.int .i64 0) (.int .i64 0) (.slice none 0 0)).size _⟩

theorem hoL_some {l : List Cc} {b : F} (h : hoR l = some b) (hb : hoB l = true) : hoL l = b.flat := by
  unfold hoL
  unfold hoB at hb
  rw [h] at hb ⊢
  simp only at hb ⊢
  unfold gd
  rw [if_pos hb]
theorem hoL_no {l : List Cc} (hb : hoB l = false) : hoL l = [] := by
  unfold hoL
  unfold hoB at hb
  cases h : hoR l with
  | none => rfl
  | some b =>
    rw [h] at hb
    simp only at hb ⊢
    unfold gd
    rw [hb]
    rfl

set_option maxRecDepth 20000 in
set_option maxHeartbeats 2000000 in
theorem specHandOn_any (ad : Option Addr) (c : Nat) (l : List Cc) (w : World) (hl : l.length ≤ 1048576) (h : CRow w ad l) :
    Calls Try.prog 7 #[.slice ad l.length c] w fun e w' => ∃ s', e = .returned (.tuple #[s', .bool (hoB l)]) ∧ w'.ownsRow w.heap.size 42 2 s' (hoL l).length (cv (hoL l)) ∧ Below w.heap.size w w' := by
  have HC := hide (l7Of_any ad c l w hl h)
  unfold OfV at HC
  have HL := hide (hoL_len l)
  clear h
  cases hB : hoB l with
  | false =>
    rw [hoL_no hB]
    rw [hB] at HC
    clear hB HL
    go_enter Try.func7, Try.ntmps7
    go_wp2_with fail
    refine Calls.mono HC.out ?_
    rintro e w1 ⟨he, hb1⟩
    have he' : e = .returned (.tuple #[.agg #[.int .i64 0, .int .i64 0, .slice none 0 0], .bool false]) := he
    subst he'
    clear HC he
    go_wp2_with fail
    exact bodyPost_ret (v := .tuple #[.slice none 0 0, .bool false]) (by simp [results, Try.results7, go_sem]) rfl ⟨_, rfl, World.ownsRow_nil _ _ _ _, hb1.alloc hb1.size _⟩
  | true =>
    rw [hB] at HC
    have HBt := hide hB
    clear hB
    go_enter Try.func7, Try.ntmps7
    go_wp2_with fail
    refine Calls.mono HC.out ?_
    rintro e w1 ⟨he, hb1⟩
    have he' : ∃ b v, hoR l = some b ∧ e = .returned (.tuple #[v, .bool true]) ∧ TV w1 AnyQ b v := he
    obtain ⟨b, v, hR, rfl, hv⟩ := he'
    have hLe := hoL_some hR HBt.out
    obtain ⟨x, k, s, rfl, rfl, hK⟩ := hv
    have hlk : k.flat.length + 1 ≤ 600 := by have := HL.out; rw [hLe] at this; simpa [F.flat] using this
    have HK := hide (hK.below (bel1 w1 (.cells #[.int .i64 x.k, .int .i64 x.n, s] 37)))
    have HFl := hide (fun (w' : World) (hT : KidT w' AnyQ k s) => l3Flat_any k x s (.slice none 0 0) w'.heap.size 0 [] AnyQ w' (fun g _ _ h => by cases h) (by omega) (Nat.le_refl _) hT (World.ownsRow_nil _ _ _ _))
    obtain ⟨sad, sc, rfl⟩ := hK.form
    obtain ⟨KL, hKL⟩ : ∃ KL, KL = k.len := ⟨_, rfl⟩
    rw [← hKL] at HK HFl ⊢
    have HB1 := hide hb1
    have HLe : Hid (hoL l = x :: k.flat) := hide (by rw [hLe]; simp [F.flat])
    clear he hR hLe hK hKL hb1 HC hlk
    go_wp2_with fail
    refine Calls.mono (HFl.out _ HK.out) ?_
    rintro e w2 ⟨v', rfl, ho, hg, -⟩
    obtain ⟨ta, tc, rfl⟩ := own_form ho
    have HO := hide ho
    have HG := hide hg
    obtain ⟨NL, hNL⟩ : ∃ NL, NL = 0 + (k.flat.length + 1) := ⟨_, rfl⟩
    rw [← hNL] at HO ⊢
    have HNL : Hid (NL = (hoL l).length) := hide (by rw [HLe.out, hNL]; simp)
    clear ho hg hNL HFl
    go_wp2_with fail
    refine bodyPost_ret (v := .tuple #[.slice ta NL tc, .bool true]) (by simp [results, Try.results7, go_sem]) rfl ⟨_, rfl, ?_, ?_⟩
    · have h2 := HO.out
      rw [List.nil_append, ← HLe.out] at h2
      rw [HNL.out] at h2 ⊢
      exact own_lower h2 (by have := HB1.out.size; simp; omega)
    · have hx := HG.out
      have hb2 : Below (w1.alloc (.cells #[.int .i64 x.k, .int .i64 x.n, .slice sad KL sc] 37)).heap.size (w1.alloc (.cells #[.int .i64 x.k, .int .i64 x.n, .slice sad KL sc] 37)) w2 := ⟨hx.os, hx.tape, hx.output, hx.size, fun k hk => hx.block k hk (fun h => by cases h)⟩
      exact (HB1.out.alloc HB1.out.size _).trans (hb2.mono (HB1.out.alloc HB1.out.size _).size)

set_option maxRecDepth 20000 in
set_option maxHeartbeats 2000000 in
theorem specHandedSize_any (ad : Option Addr) (c : Nat) (l : List Cc) (w : World) (hl : l.length ≤ 1048576) (h : CRow w ad l) :
    Calls Try.prog 15 #[.slice ad l.length c] w fun e w' => e = .returned (.tuple #[.int .i64 ((hoL l).length : Int), .bool (hoB l)]) ∧ Below w.heap.size w w' := by
  have HC := hide (l7Of_any ad c l w hl h)
  unfold OfV at HC
  have HL := hide (hoL_len l)
  clear h
  cases hB : hoB l with
  | false =>
    rw [hoL_no hB]
    rw [hB] at HC
    clear hB HL
    go_enter Try.func15, Try.ntmps15
    go_wp2_with fail
    refine Calls.mono HC.out ?_
    rintro e w1 ⟨he, hb1⟩
    have he' : e = .returned (.tuple #[.agg #[.int .i64 0, .int .i64 0, .slice none 0 0], .bool false]) := he
    subst he'
    clear HC he
    go_wp2_with fail
    exact bodyPost_ret (v := .tuple #[.int .i64 0, .bool false]) (by simp [results, Try.results15, go_sem]) rfl ⟨rfl, hb1.alloc hb1.size _⟩
  | true =>
    rw [hB] at HC
    have HBt := hide hB
    clear hB
    go_enter Try.func15, Try.ntmps15
    go_wp2_with fail
    refine Calls.mono HC.out ?_
    rintro e w1 ⟨he, hb1⟩
    have he' : ∃ b v, hoR l = some b ∧ e = .returned (.tuple #[v, .bool true]) ∧ TV w1 AnyQ b v := he
    obtain ⟨b, v, hR, rfl, hv⟩ := he'
    have hLe := hoL_some hR HBt.out
    obtain ⟨x, k, s, rfl, rfl, hK⟩ := hv
    have hlk : k.flat.length + 1 ≤ 600 := by have := HL.out; rw [hLe] at this; simpa [F.flat] using this
    have HK := hide (hK.below (bel1 w1 (.cells #[.int .i64 x.k, .int .i64 x.n, s] 37)))
    have HFl := hide (fun (w' : World) (hT : KidT w' AnyQ k s) => l3Size_any k x s AnyQ w' (by omega) hT)
    obtain ⟨sad, sc, rfl⟩ := hK.form
    obtain ⟨KL, hKL⟩ : ∃ KL, KL = k.len := ⟨_, rfl⟩
    rw [← hKL] at HK HFl ⊢
    have HB1 := hide hb1
    have HLe : Hid ((hoL l).length = k.flat.length + 1) := hide (by rw [hLe]; simp [F.flat])
    clear he hR hLe hK hKL hb1 HC hlk
    go_wp2_with fail
    refine Calls.mono (HFl.out _ HK.out) ?_
    rintro e w2 ⟨rfl, hb2⟩
    have HB2 := hide hb2
    clear hb2 HFl
    go_wp2_with fail
    exact bodyPost_ret (v := .tuple #[.int .i64 ((k.flat.length : Int) + 1), .bool true]) (by simp [results, Try.results15, go_sem]) rfl ⟨by rw [HLe.out]; simp, (HB1.out.alloc HB1.out.size _).trans (HB2.out.mono (HB1.out.alloc HB1.out.size _).size)⟩
end Go.Proofs.Ytnmkbpflbfhpnaa.W

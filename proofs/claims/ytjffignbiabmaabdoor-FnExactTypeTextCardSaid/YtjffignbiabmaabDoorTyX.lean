/-
  A type's text: contracts of the program's typeTextAhead and TypeText, and of the specification's l5Text and TypeText. Conditions: Go's own table of powers of ten reads as its text lays it; at most 1048576 cells.
-/
import Derived.Test.YtjffignbiabmaabDoorTxN
import Derived.Test.YtjffignbiabmaabDoorTyS
import Derived.Deep.RegionHeld3
import Derived.Test.YtjffignbiabmaabDoorTyB
namespace Go.Proofs.YtjffignbiabmaabDoor.Y
open Go.Proofs.YtjffignbiabmaabDoor.W
open Go.ChangeShapes Go.WideShapes Go.ChangeAt Go.RowKit
set_option linter.unusedVariables false

/-- A type's text, its parts' texts given. -/
def tx (x : Cc) (ts : List ByteArray) : ByteArray :=
  if x.k = 1 then ⟨#[97]⟩ ++ itB x.n else if x.k = 2 then ⟨#[110, 117, 109]⟩ else ⟨#[40]⟩ ++ ts.getD 0 ⟨#[]⟩ ++ ⟨#[45, 62]⟩ ++ ts.getD 1 ⟨#[]⟩ ++ ⟨#[41]⟩
def txF : F → List ByteArray
  | .nil => []
  | .cons x k r => tx x (txF k) :: txF r
def tx1 (x : Cc) (k : F) : ByteArray := tx x (txF k)
theorem good_n {x : Cc} (h : goodC x = true) : 0 ≤ x.n ∧ x.n ≤ 30 := by
  unfold goodC at h
  split at h
  · simpa [inB] using h
  · simp [inB] at h; omega
def lensF : List ByteArray → Nat
  | [] => 0
  | a :: l => a.size + lensF l
theorem txF_len : ∀ (a : F), a.ok → lensF (txF a) ≤ 11 * a.flat.length
  | .nil, _ => by simp [txF, lensF]
  | .cons x k r, ⟨h1, h2, h3, h4⟩ => by
    have hk := txF_len k h3
    have hr := txF_len r h4
    have hn := good_n h1
    have hi := itB_len x.n (by omega) (by omega)
    have h5 : (tx x (txF k)).size ≤ 11 + lensF (txF k) := by
      unfold tx
      split
      · rw [ByteArray.size_append]; show 1 + _ ≤ _; omega
      · split
        · show 3 ≤ _; omega
        · simp only [ByteArray.size_append]
          have e1 : (⟨#[40]⟩ : ByteArray).size = 1 := rfl
          have e2 : (⟨#[45, 62]⟩ : ByteArray).size = 2 := rfl
          have e3 : (⟨#[41]⟩ : ByteArray).size = 1 := rfl
          have e4 : (⟨#[]⟩ : ByteArray).size = 0 := rfl
          rw [e1, e2, e3]
          match txF k with
          | [] => simp [e4, lensF]
          | [u] => simp [lensF, e4]; omega
          | u :: v :: l => simp [lensF]; omega
    simp only [txF, lensF, F.flat, List.length_cons, List.length_append]
    omega
theorem tx1_len {x : Cc} {k : F} (h : (F.cons x k .nil).ok) (hl : k.flat.length ≤ 60) : (tx1 x k).size ≤ 700 := by
  have := txF_len _ h
  simp [txF, lensF, F.flat] at this
  unfold tx1; omega

theorem F.len_2 {a : F} (h : a.len = 2) : ∃ y0 k0 y1 k1, a = .cons y0 k0 (.cons y1 k1 .nil) := by
  cases a with
  | nil => simp [F.len] at h
  | cons x k r =>
    obtain ⟨y1, k1, rfl⟩ := F.len_1 (a := r) (by simpa [F.len] using h)
    exact ⟨_, _, _, _, rfl⟩

/-- The row behind its first cell. -/
theorem row_tail {w : World} {b o c : Nat} {x : Cc} {l : List Cc} (h : CRowAt w b o (x :: l)) (hc : l.length + 1 ≤ c) : ∃ ad1, ((c = 1 ∧ ad1 = some ⟨b, o, none⟩) ∨ (c ≠ 1 ∧ ad1 = some ⟨b, o + 2, none⟩)) ∧ CRow w ad1 l := by
  by_cases h1 : c = 1
  · exact ⟨_, .inl ⟨h1, rfl⟩, .inl (List.eq_nil_of_length_eq_zero (by omega))⟩
  · exact ⟨_, .inr ⟨h1, rfl⟩, .inr ⟨b, _, rfl, by simpa using h.drop 1⟩⟩

def TXGoal (k : F) : Prop := ∀ (x : Cc) (r : List Cc) (ad : Option Addr) (c : Nat) (w : World), goodC x = true → k.len = ar x.k → k.ok → (x :: (k.flat ++ r)).length ≤ 60 → (x :: (k.flat ++ r)).length ≤ c → CRow w ad (x :: (k.flat ++ r)) → Tab w →
    Calls Tryd.prog 26 #[.slice ad (x :: (k.flat ++ r)).length c] w fun e w' => ∃ ad' c', e = .returned (.tuple #[.string (tx1 x k), .slice ad' r.length c']) ∧ r.length ≤ c' ∧ CRow w' ad' r ∧ Below w.heap.size w w'

set_option maxRecDepth 20000 in
set_option maxHeartbeats 2000000 in
theorem typeTextAhead_any : ∀ k, TXGoal k := by
  apply F.rec_kids
  intro k ih x r ad c w hg hk hko hl hc hR hT
  have IH := hide ih
  have HT := hide hT
  have HKO := hide hko
  have hlen := tx1_len (x := x) (k := k) ⟨hg, hk, hko, trivial⟩ (by simp at hl; omega)
  obtain ⟨b, o, rfl, hrow⟩ : ∃ b o, ad = some ⟨b, o, none⟩ ∧ CRowAt w b o (x :: (k.flat ++ r)) := by
    rcases hR with h | h
    · cases h
    · exact h
  have hb := hrow.1
  obtain ⟨p0, p1⟩ := hrow.2 0 (by simp)
  simp only [Nat.zero_mul, Nat.add_zero, List.getElem_cons_zero] at p0 p1
  obtain ⟨ad1, had1, hrow1⟩ := row_tail hrow (c := c) (by simp at hc ⊢; omega)
  have HRow1 := hide hrow1
  clear ih hT hko hR hrow hrow1
  have hn := good_n hg
  have hi := itB_len x.n (by omega) (by omega)
  have hkk := good_kinds hg
  obtain ⟨L, hL⟩ : ∃ L, L = (x :: (k.flat ++ r)).length := ⟨_, rfl⟩
  rw [← hL] at hl hc ⊢
  have hL1 : (1 : Int) ≤ (L : Int) := by simp at hL; omega
  have hLc : (L : Int) ≤ (c : Int) := by omega
  have h0L : (0 : Int) < (L : Int) := by omega
  have h1c : (1 : Int) ≤ (c : Int) := by omega
  have HLk : Hid (L = k.flat.length + r.length + 1) := hide (by rw [hL]; simp)
  clear hL
  obtain ⟨xk, xn⟩ := x
  simp only at *
  have HB1 : Hid (Below w.heap.size w w.drew) := hide (belowDrew (Below.refl _ _))
  rcases hkk with h | h | h
  · subst h
    obtain rfl : k = .nil := F.len_0 (by rw [hk]; rfl)
    have HE : Hid (tx1 ⟨1, xn⟩ .nil = ⟨#[97]⟩ ++ itB xn) := hide rfl
    rw [HE.out]
    have hLr : L = r.length + 1 := by have := HLk.out; simpa [F.flat] using this
    rw [F.flat, List.nil_append] at HRow1
    have HC := hide (fun w' (hb : Below w.heap.size w w') => ItoaI_any xn w' (by omega) (by omega) (HT.out.below hb))
    clear hk hlen HLk
    obtain ⟨it, hit⟩ : ∃ it, it = itB xn := ⟨_, rfl⟩
    rw [← hit] at HC hi ⊢
    clear hit
    rcases had1 with ⟨hc1, had1⟩ | ⟨hc1, had1⟩
    · subst hc1 had1
      obtain rfl : r = [] := List.eq_nil_of_length_eq_zero (by omega)
      obtain rfl : L = 1 := by simpa using hLr
      clear hLr
      go_enter Tryd.func26, Tryd.ntmps26
      go_wp2_with fail
      go_region_with (go_at_call 42; refine (HC.out _ HB1.out).mono ?_; rintro e w1 ⟨rfl, hb1⟩)
      all_goals
        go_wp2_with fail
        exact bodyPost_ret (v := .tuple #[.string (⟨#[97]⟩ ++ it), .slice (some ⟨b, o, none⟩) 0 0]) (by simp [results, Tryd.results26, go_sem]) rfl ⟨_, _, rfl, Nat.le_refl _, .inl rfl, HB1.out.trans (hb1.mono HB1.out.size)⟩
    · have hc1' : ¬ (c : Int) - 1 = 0 := by omega
      have hc1'' : ¬ c - 1 = 0 := by omega
      have hL1' : L - 1 = r.length := by omega
      subst had1
      go_enter Tryd.func26, Tryd.ntmps26
      go_wp2_with fail
      go_region_with (go_at_call 42; refine (HC.out _ HB1.out).mono ?_; rintro e w1 ⟨rfl, hb1⟩)
      all_goals
        go_wp2_with fail
        have hBB := HB1.out.trans (hb1.mono HB1.out.size)
        exact bodyPost_ret (v := .tuple #[.string (⟨#[97]⟩ ++ it), .slice (some ⟨b, o + 2, none⟩) r.length (c - 1)]) (by simp [results, Tryd.results26, go_sem]) rfl ⟨_, _, rfl, by omega, HRow1.out.below hBB, hBB⟩
  · subst h
    obtain rfl : k = .nil := F.len_0 (by rw [hk]; rfl)
    have HE : Hid (tx1 ⟨2, xn⟩ .nil = ⟨#[110, 117, 109]⟩) := hide rfl
    rw [HE.out]
    have hLr : L = r.length + 1 := by have := HLk.out; simpa [F.flat] using this
    rw [F.flat, List.nil_append] at HRow1
    clear hk hlen HLk
    rcases had1 with ⟨hc1, had1⟩ | ⟨hc1, had1⟩
    · subst hc1 had1
      obtain rfl : r = [] := List.eq_nil_of_length_eq_zero (by omega)
      obtain rfl : L = 1 := by simpa using hLr
      clear hLr
      go_enter Tryd.func26, Tryd.ntmps26
      go_wp2_with fail
      go_region
      go_wp2_with fail
      exact bodyPost_ret (v := .tuple #[.string ⟨#[110, 117, 109]⟩, .slice (some ⟨b, o, none⟩) 0 0]) (by simp [results, Tryd.results26, go_sem]) rfl ⟨_, _, rfl, Nat.le_refl _, .inl rfl, HB1.out⟩
    · have hc1' : ¬ (c : Int) - 1 = 0 := by omega
      have hc1'' : ¬ c - 1 = 0 := by omega
      have hL1' : L - 1 = r.length := by omega
      subst had1
      go_enter Tryd.func26, Tryd.ntmps26
      go_wp2_with fail
      go_region
      go_wp2_with fail
      exact bodyPost_ret (v := .tuple #[.string ⟨#[110, 117, 109]⟩, .slice (some ⟨b, o + 2, none⟩) r.length (c - 1)]) (by simp [results, Tryd.results26, go_sem]) rfl ⟨_, _, rfl, by omega, HRow1.out.below HB1.out, HB1.out⟩
  · subst h
    have hk2 : k.len = 2 := by rw [hk]; rfl
    obtain ⟨y0, k0, y1, k1, rfl⟩ := F.len_2 hk2
    obtain ⟨g0, l0, o0, g1, l1, o1, -⟩ : goodC y0 = true ∧ k0.len = ar y0.k ∧ k0.ok ∧ goodC y1 = true ∧ k1.len = ar y1.k ∧ k1.ok ∧ F.nil.ok := HKO.out
    obtain ⟨ih0, ih1, -⟩ : TXGoal k0 ∧ TXGoal k1 ∧ True := IH.out
    have hfl : (F.cons y0 k0 (F.cons y1 k1 .nil)).flat = y0 :: (k0.flat ++ (y1 :: k1.flat)) := by simp [F.flat]
    rw [hfl] at HRow1 HLk
    have hflr : (y0 :: (k0.flat ++ (y1 :: k1.flat))) ++ r = y0 :: (k0.flat ++ (y1 :: (k1.flat ++ r))) := by simp
    rw [hflr] at HRow1
    have hn0 : (y0 :: (k0.flat ++ (y1 :: (k1.flat ++ r)))).length = L - 1 := by have := HLk.out; simp at this ⊢; omega
    have hc1 : c ≠ 1 := by have := HLk.out; simp at this; omega
    have h0 := tx1_len (x := y0) (k := k0) ⟨g0, l0, o0, trivial⟩ (by have := HLk.out; simp at this; omega)
    have h1 := tx1_len (x := y1) (k := k1) ⟨g1, l1, o1, trivial⟩ (by have := HLk.out; simp at this; omega)
    have HC0 := hide (ih0 y0 (y1 :: (k1.flat ++ r)) ad1 (c - 1) w g0 l0 o0 (by rw [hn0]; omega) (by rw [hn0]; omega) HRow1.out HT.out)
    have HC1 := hide (fun (ad' : Option Addr) (c' : Nat) (w' : World) (hc : (y1 :: (k1.flat ++ r)).length ≤ c') (hR : CRow w' ad' (y1 :: (k1.flat ++ r))) (hb : Below w.heap.size w w') => ih1 y1 r ad' c' w' g1 l1 o1 (by simp at hn0 ⊢; omega) hc hR (HT.out.below hb))
    rw [hn0] at HC0
    have HE : Hid (tx1 ⟨3, xn⟩ (.cons y0 k0 (.cons y1 k1 .nil)) = ⟨#[40]⟩ ++ tx1 y0 k0 ++ ⟨#[45, 62]⟩ ++ tx1 y1 k1 ++ ⟨#[41]⟩) := hide rfl
    rw [HE.out]
    obtain ⟨u0, hu0⟩ : ∃ u, u = tx1 y0 k0 := ⟨_, rfl⟩
    obtain ⟨u1, hu1⟩ : ∃ u, u = tx1 y1 k1 := ⟨_, rfl⟩
    rw [← hu0] at HC0 h0 ⊢
    rw [← hu1] at HC1 h1 ⊢
    clear hu0 hu1 hk hlen HKO IH ih0 ih1 hfl hflr hk2 g0 l0 o0 g1 l1 o1 HE hn0
    obtain rfl : ad1 = some ⟨b, o + 2, none⟩ := by
      rcases had1 with ⟨h, -⟩ | ⟨-, h⟩
      · exact absurd h hc1
      · exact h
    have hc1' : ¬ (c : Int) - 1 = 0 := by omega
    have hc1'' : ¬ c - 1 = 0 := by omega
    go_enter Tryd.func26, Tryd.ntmps26
    go_wp2_with fail
    refine Calls.mono HC0.out ?_
    rintro e w1 ⟨ad', c', rfl, hc', hR', hb1⟩
    have HR1 := hide hR'
    clear hR' HC0
    have HC2 := hide (HC1.out ad' c' w1 hc' HR1.out hb1)
    obtain ⟨M, hM⟩ : ∃ M, M = (y1 :: (k1.flat ++ r)).length := ⟨_, rfl⟩
    rw [← hM] at HC2 ⊢
    clear hM HC1
    go_wp2_with fail
    refine Calls.mono HC2.out ?_
    rintro e w2 ⟨ad2, c2, rfl, hc2, hR2, hb2⟩
    have hB2 : Below w.heap.size w w2 := hb1.trans (hb2.mono hb1.size)
    have HR2 := hide hR2
    clear hR2 HC2
    go_wp2_with fail
    exact bodyPost_ret (v := .tuple #[.string (⟨#[40]⟩ ++ u0 ++ ⟨#[45, 62]⟩ ++ u1 ++ ⟨#[41]⟩), .slice ad2 r.length c2]) (by simp [results, Tryd.results26, go_sem]) rfl ⟨_, _, rfl, hc2, HR2.out, hB2⟩

/-- What TypeText tells. -/
def txT (l : List Cc) : Option ByteArray := match treeT l with | some (.cons x k .nil) => some (tx1 x k) | _ => none
def txV : Option ByteArray → Value
  | none => .tuple #[.string ⟨#[]⟩, .bool false]
  | some s => .tuple #[.string s, .bool true]

set_option maxRecDepth 20000 in
set_option maxHeartbeats 2000000 in
theorem implText_any (ad : Option Addr) (c : Nat) (l : List Cc) (w : World) (hl : l.length ≤ 1048576) (hc : l.length ≤ c) (h : CRow w ad l) (ht : Tab w) :
    Calls Tryd.prog 13 #[.slice ad l.length c] w fun e w' => e = .returned (txV (txT l)) ∧ Below w.heap.size w w' := by
  have HG := hide (implGoodT_any ad c l w hl h)
  cases hT : treeT l with
  | none =>
    have hg : goodT l = false := by unfold goodT; rw [hT]; rfl
    have HE : Hid (txV (txT l) = .tuple #[.string ⟨#[]⟩, .bool false]) := hide (by unfold txT; rw [hT]; rfl)
    rw [hg] at HG
    rw [HE.out]
    clear hT hg h ht
    go_enter Tryd.func13, Tryd.ntmps13
    go_wp2_with fail
    refine HG.out.mono ?_
    rintro e w1 ⟨rfl, hb1⟩
    go_wp2_with fail
    exact bodyPost_ret (v := .tuple #[.string ⟨#[]⟩, .bool false]) (by simp [results, Tryd.results13, go_sem]) rfl ⟨rfl, hb1⟩
  | some a =>
    have hg : goodT l = true := by unfold goodT; rw [hT]; rfl
    obtain ⟨t1, t2, t3, t4, -⟩ := treeT_flat hT
    obtain ⟨x, k, rfl⟩ := F.len_1 t3
    have HE : Hid (txV (txT l) = .tuple #[.string (tx1 x k), .bool true]) := hide (by unfold txT; rw [hT]; rfl)
    obtain ⟨g1, l1, o1, -⟩ : goodC x = true ∧ k.len = ar x.k ∧ k.ok ∧ F.nil.ok := t2
    have hlx : l = x :: (k.flat ++ []) := by rw [t1]; simp [F.flat]
    have HC := hide (fun (w' : World) (hb : Below w.heap.size w w') => typeTextAhead_any k x [] ad c w' g1 l1 o1 (by rw [← hlx]; exact t4) (by rw [← hlx]; exact hc) (by rw [← hlx]; exact h.below hb) (ht.below hb))
    rw [← hlx] at HC
    rw [hg] at HG
    rw [HE.out]
    clear hT hg h ht t1 t3 hlx g1 l1 o1
    obtain ⟨u, hu⟩ : ∃ u, u = tx1 x k := ⟨_, rfl⟩
    rw [← hu] at HC ⊢
    clear hu HE
    go_enter Tryd.func13, Tryd.ntmps13
    go_wp2_with fail
    refine HG.out.mono ?_
    rintro e w1 ⟨rfl, hb1⟩
    go_wp2_with fail
    refine Calls.mono (HC.out _ hb1) ?_
    rintro e w2 ⟨ad', c', rfl, -, -, hb2⟩
    go_wp2_with fail
    exact bodyPost_ret (v := .tuple #[.string u, .bool true]) (by simp [results, Tryd.results13, go_sem]) rfl ⟨rfl, hb1.trans (hb2.mono hb1.size)⟩
end Go.Proofs.YtjffignbiabmaabDoor.Y

/-
  Which values fit a pattern: the model, and contracts of the program's cutFirst and fits. Conditions: good data, at most 1048576 cells.
-/
import Derived.Test.YtmlpnmdckgppnaaPaI
import Derived.Test.YtmlpnmdckgppnaaQvL
import Derived.BigQuiet
namespace Go.Proofs.Ytmlpnmdckgppnaa.W
open Go.ChangeShapes Go.WideShapes Go.ChangeAt Go.RowKit
set_option linter.unusedVariables false
set_option linter.unusedSimpArgs false

/-- Whether values, one behind the other, fit patterns. -/
def fit : F → F → Bool
  | .nil, _ => true
  | .cons _ _ _, .nil => false
  | .cons x k r, .cons y k' r' => (if x.kd = 1 then true else decide (x.con = y.con) && fit k k') && fit r r'
/-- No cell is PatAny. -/
def F.val : F → Prop
  | .nil => True
  | .cons x k r => x.kd = 2 ∧ k.val ∧ r.val
theorem F.app_val : ∀ {a b : F}, (a.app b).val ↔ a.val ∧ b.val
  | .nil, b => by simp [F.app, F.val]
  | .cons x k r, b => by simp [F.app, F.val, F.app_val (a := r) (b := b), and_assoc]
theorem val_of {v : List Int} : ∀ {a : F} {r : List Pt}, (∃ n, (v.map oP).drop n = a.flat ++ r) → a.val
  | .nil, r, _ => trivial
  | .cons x k s, r, ⟨n, h⟩ => by
    have h1 : (v.map oP)[n]? = some x := by
      have := congrArg (fun l => l[0]?) h
      simpa [F.flat] using this
    have h2 : (v.map oP).drop (n + 1) = k.flat ++ (s.flat ++ r) := by
      rw [← List.drop_drop, h]; simp [F.flat]
    refine ⟨?_, val_of (v := v) ⟨n + 1, h2⟩, val_of (v := v) (r := r) ⟨n + 1 + k.flat.length, ?_⟩⟩
    · rw [List.getElem?_map] at h1
      cases hv : v[n]? with
      | none => rw [hv] at h1; simp at h1
      | some c => rw [hv] at h1; simp at h1; rw [← h1]; rfl
    · rw [← List.drop_drop, h2]; simp
theorem fit_app : ∀ {a a' b b' : F}, a.len = a'.len → fit (a.app b) (a'.app b') = (fit a a' && fit b b')
  | .nil, .nil, b, b', _ => by simp [F.app, fit]
  | .nil, .cons _ _ _, b, b', h => by simp [F.len] at h
  | .cons _ _ _, .nil, b, b', h => by simp [F.len] at h
  | .cons x k r, .cons y k' r', b, b', h => by
    simp only [F.app, fit]
    rw [fit_app (a := r) (a' := r') (by simpa [F.len] using h), Bool.and_assoc]
theorem fit_cons (x : Pt) (k r : F) (y : Pt) (k' r' : F) : fit (.cons x k r) (.cons y k' r') = (fit (.cons x k .nil) (.cons y k' .nil) && fit r r') := by
  simp only [fit, Bool.and_true]
theorem kids_same {D : List Int} {x y : Pt} {k r k' r' : F} (h : (F.cons x k r).ok D) (h' : (F.cons y k' r').ok D) (hx : x.kd ≠ 1) (hy : y.kd ≠ 1) (he : x.con = y.con) : k.len = k'.len := by
  rw [h.2.1, h'.2.1, ar, ar, if_neg hx, if_neg hy, he]
theorem any_leaf {D : List Int} {x : Pt} {k r : F} (h : (F.cons x k r).ok D) (hx : x.kd = 1) : k = .nil := by
  have := h.2.1
  rw [ar, if_pos hx] at this
  exact F.len_0 this

set_option maxRecDepth 20000 in
set_option maxHeartbeats 4000000 in
theorem cutFirst_any (vd : Value) (D : List Int) (b o c : Nat) (l : List Pt) (a : F) (r : List Pt) (w : World) (hD : DRow w vd D) (hd : goodD D = true) (hl : l.length ≤ 1048576) (hc : l.length ≤ c) (h : RAt 2 Pt.c w b o l) (hla : l = a.flat ++ r) (ha : a.ok D) (h1 : a.len = 1) :
    Calls Try.prog 58 #[vd, .slice (some ⟨b, o, none⟩) l.length c] w fun e w' => ∃ q, e = .returned (.tuple #[.slice (some ⟨b, o, none⟩) a.flat.length a.flat.length, .slice (some ⟨b, q, none⟩) r.length (c - a.flat.length)]) ∧ (r ≠ [] → q = o + a.flat.length * 2) ∧ Below w.heap.size w w' := by
  have HR : Hid (PtRow w (some ⟨b, o, none⟩) l) := hide (.inr ⟨b, o, rfl, h⟩)
  have HD := hide hD
  have Hd := hide hd
  obtain ⟨da, dc, rfl, -, hDl⟩ := hD
  have HB0 := hide (show Below w.heap.size w (w.alloc (.cells #[.slice da D.length dc] 31)) from (Below.refl _ _).alloc (Nat.le_refl _) _)
  have HX0 := hide (Bx.new w #[.slice da D.length dc] 31)
  obtain ⟨n, hn⟩ : ∃ n, n = a.flat.length := ⟨_, rfl⟩
  rw [← hn]
  have hrn : r.length = l.length - n := by rw [hla, hn]; simp
  have hnl : n ≤ l.length := by rw [hla, hn]; simp
  have HLa := hide hla
  have Ha := hide ha
  have H1 := hide h1
  have HN := hide hn
  obtain ⟨rn, hrn'⟩ : ∃ rn, rn = r.length := ⟨_, rfl⟩
  rw [← hrn'] at hrn ⊢
  have HRn := hide hrn
  have HRr := hide hrn'
  clear h hla ha h1 hn hd hrn hrn'
  go_enter Try.func58, Try.ntmps58
  go_wp2_with fail
  go_loopw [6, 7] (fun i m w' => ∃ (j : Nat) (s : F), j ≤ n ∧ s.len ≤ j + 1 ∧ i = .int .i64 j ∧ m = .int .i64 (s.len : Int) ∧ l.drop j = s.flat ++ r ∧ s.ok D ∧ j + s.flat.length = n ∧ Bx w' w.heap.size #[.slice da D.length dc] 31 ∧ Below w.heap.size w w') (fun i _ _ => n - (intOf i).toNat)
  case atStart => exact ⟨0, a, by omega, by have := H1.out; omega, rfl, by rw [H1.out]; rfl, HLa.out, Ha.out, by rw [HN.out]; omega, HX0.out, HB0.out⟩
  case round =>
    clear HX0 HB0
    obtain ⟨j, s, hj, hM, rfl, rfl, hs, hok, hjs, hX, hB⟩ := hrel
    have HS := hide hs
    have HOk := hide hok
    have HX := hide hX
    have Hjs := hide hjs
    clear hs hok hX hjs
    obtain ⟨M, hMd⟩ : ∃ M, M = s.len := ⟨_, rfl⟩
    rw [← hMd] at hM ⊢
    have HM := hide hMd
    clear hMd
    by_cases hM0 : M = 0
    · subst hM0
      have hsn : s = .nil := F.len_0 HM.out.symm
      have hjn : j = n := by have := Hjs.out; rw [hsn] at this; simpa [F.flat] using this
      subst hjn
      have h1 : (0 : Int) ≤ (j : Int) := by omega
      have h2 : (j : Int) ≤ (l.length : Int) := by omega
      have h3 : (l.length : Int) ≤ (c : Int) := by omega
      have h4 : (j : Int) ≤ (c : Int) := by omega
      have hrr : rn = l.length - j := HRn.out
      clear hM HM HS HOk hsn HRn
      by_cases hcj : c = j
      · obtain rfl : c = l.length := by omega
        subst hcj
        go_wp2_with fail
        go_quiet (fail)
        go_wp2_with fail
        refine bodyPost_ret (v := .tuple #[.slice (some ⟨b, o, none⟩) l.length l.length, .slice (some ⟨b, o, none⟩) (l.length - l.length) (l.length - l.length)]) (by simp [results, Try.results58, go_sem]) rfl ⟨o, by rw [hrr], fun h => ?_, ⟨hB.os, hB.tape, hB.output, hB.size, hB.block⟩⟩
        exact absurd (List.eq_nil_of_length_eq_zero (by have := HRr.out; omega)) h
      · go_wp2_with fail
        go_quiet (fail)
        go_wp2_with fail
        refine bodyPost_ret (v := .tuple #[.slice (some ⟨b, o, none⟩) j j, .slice (some ⟨b, o + j * 2, none⟩) (l.length - j) (c - j)]) (by simp [results, Try.results58, go_sem]) rfl ⟨_, by rw [hrr], fun _ => rfl, ⟨hB.os, hB.tape, hB.output, hB.size, hB.block⟩⟩
    · have hMi : (0 : Int) < (M : Int) := by omega
      obtain ⟨x, k, t, hst⟩ : ∃ x k t, s = .cons x k t := by
        cases s with
        | nil => have := HM.out; simp [F.len] at this; omega
        | cons x k t => exact ⟨_, _, _, rfl⟩
      have hjlt : j < n := by have := Hjs.out; rw [hst] at this; simp [F.flat] at this; omega
      have hlt : j < l.length := by omega
      have hlt' : (j : Int) < (l.length : Int) := by omega
      obtain ⟨b', o', he, hb, p0, p1⟩ := PtRow.tok HR.out hB hlt
      simp only [Option.some.injEq, Addr.mk.injEq] at he
      obtain ⟨rfl, rfl, -⟩ := he
      have hd2 : l.drop j = l[j] :: l.drop (j + 1) := List.drop_eq_getElem_cons hlt
      have hxx : l[j] = x ∧ l.drop (j + 1) = k.flat ++ t.flat ++ r := by
        have := HS.out
        rw [hd2, hst] at this
        simp only [F.flat, List.cons_append, List.cons.injEq] at this
        exact this
      rw [hxx.1] at p0 p1
      have HS2 := hide hxx.2
      have hok := HOk.out
      rw [hst] at hok
      have Hok2 := hide hok
      have hjs := Hjs.out
      rw [hst] at hjs
      have Hjs2 := hide hjs
      have hMt : M = t.len + 1 := by rw [HM.out, hst]; rfl
      have HP := hide (fun (w' : World) (hb : Below w.heap.size w w') => partsBehind_any (.agg #[.slice da D.length dc]) D x w' (HD.out.below hb) Hd.out hok.1)
      have hle := ar_le Hd.out x
      have har : ar D x = k.len := hok.2.1.symm
      obtain ⟨R, hR⟩ : ∃ R, R = ar D x := ⟨_, rfl⟩
      rw [← hR] at HP hle har
      have HAr := hide har
      have HMt := hide hMt
      have hBw := hide hB
      have cx : ∀ oo, wr.cell? ⟨w.heap.size, oo, none⟩ = #[.slice da D.length dc][oo]? := HX.out.c
      have xl := HX.out.lt
      have hj0 : (0 : Int) ≤ (j : Int) := by omega
      clear hxx hd2 hok hjs hst HS HOk Hjs HM hR har hMt HLa Ha H1
      go_wp2_with fail
      go_region_with (go_at_call 46; refine Calls.mono (HP.out _ ⟨hBw.out.os, hBw.out.tape, hBw.out.output, hBw.out.size, hBw.out.block⟩) ?_; rintro e w2 ⟨rfl, hb2⟩)
      all_goals
        have hb2' : Below wr.heap.size wr w2 := ⟨hb2.os, hb2.tape, hb2.output, hb2.size, hb2.block⟩
        have hB2 : Below w.heap.size w w2 := hB.trans (hb2'.mono hB.size)
        have HX2 := hide (HX.out.below hb2' xl)
        clear p0 p1 cx hb2 hb2'
        go_wp2_with fail
        refine ⟨⟨j + 1, k.app t, by omega, by rw [F.app_len, ← HAr.out]; have := HMt.out; omega, by go_num, ?_, by rw [HS2.out, F.app_flat], (F.app_ok D k t).2 ⟨Hok2.out.2.2.1, Hok2.out.2.2.2⟩, by rw [F.app_flat]; have := Hjs2.out; simp [F.flat] at this ⊢; omega, HX2.out, hB2⟩, by simp [intOf]; omega⟩
        rw [F.app_len, ← HAr.out]
        have := HMt.out
        go_num
end Go.Proofs.Ytmlpnmdckgppnaa.W

/-
  An expression of such a strength by the program: the contract of readFrom out of the others with a step less. Written by build/mk_pxf.py. Conditions: at most 1000 tokens; the table of signs as its text lays it.
-/
import Derived.Test.YtmnicilgenpnfaaDoorPxC
namespace Go.Proofs.YtmnicilgenpnfaaDoor.W
open Go.ChangeShapes Go.WideShapes Go.ChangeAt Go.RowKit
set_option linter.unusedVariables false
set_option linter.unusedSimpArgs false

theorem look_le' (s : List UInt8) : ∀ l : List (List UInt8 × Int), (∀ x ∈ l, x.2 ≤ 7) → look s l ≤ 7
  | [], _ => by simp [look]
  | (b, n) :: l, h => by
    unfold look
    split
    · exact h (b, n) (by simp)
    · exact look_le' s l (fun x hx => h x (by simp [hx]))
theorem strN_le' (s : ByteArray) : strN s ≤ 7 := look_le' _ _ (by decide)
theorem stAt_bd (l : List T.Tk) (p : Nat) : 0 ≤ stAt l p ∧ stAt l p ≤ 7 := by
  unfold stAt
  split
  · decide
  · split
    · exact ⟨strN_nonneg _, strN_le' _⟩
    · decide
/-- Where the reader stands, out of its cell. -/
def nxOf (w : World) (g : Nat) : Nat := match w.cell? ⟨g, 1, none⟩ with
  | some (.int _ n) => n.toNat
  | _ => 0
theorem nxOf_bk {w : World} {g : Nat} {ta : Option Addr} {n tc q d : Nat} {t : Bool} (h : Bk w g (rdC ta n tc q d t) 40) : nxOf w g = q := by
  have c := h.c 1
  unfold rdC at c
  unfold nxOf
  rw [c]
  simp
theorem own_ap {w w' : World} {base n size : Nat} {e : TypeId} {v : Value} {xs : List Value} {g : Nat} (h : w.ownsRow base e size v n xs) (hg : w.grownBy w' (some g)) (hn : g < base) : w'.ownsRow base e size v n xs := own_gr h hg hn
/-- A row of one's own has grown, seen from a world ahead. -/
theorem gr_row {a b c : World} {g : Nat} {r : Option Nat} (h1 : a.grownBy b (some g)) (h2 : b.grownBy c r) (hr : ∀ k, r = some k → a.heap.size ≤ k) : a.grownBy c (some g) :=
  ⟨h2.os.trans h1.os, h2.tape.trans h1.tape, h2.output.trans h1.output, Nat.le_trans h1.size h2.size, fun k hk hn => (h2.block k (Nat.lt_of_lt_of_le hk h1.size) (fun e => by have := hr k e.symm; omega)).trans (h1.block k hk hn)⟩
theorem Bk.row {b c : World} {g : Nat} {r : Option Nat} {cs : Array Value} {T : TypeId} (h : Bk b g cs T) (h2 : b.grownBy c r) (hr : ∀ k, r = some k → g < k) : Bk c g cs T := (h2.block g h.lt (fun e => by have := hr g e.symm; omega)).trans h
theorem loop_end {l : List T.Tk} {f : Nat} {least : Int} {d q : Nat} {e : E} (hf : 1 ≤ f) (h : stAt l q < least) : rLoop l f least d e q = .ok e q := by
  cases f with
  | zero => omega
  | succ k => rw [rLoop, if_pos h]
theorem loop_ok {l : List T.Tk} {f : Nat} {least : Int} {d q r : Nat} {e e2 : E} (h : ¬ stAt l q < least) (hr : rFrom l f (nxS (stAt l q)) d (q + 1) = .ok e2 r) : rLoop l (f + 1) least d e q = rLoop l f least d (.two ⟨5, 0, txAt l q⟩ e e2) r := by
  rw [rLoop, if_neg h, hr]
theorem loop_bad {l : List T.Tk} {f : Nat} {least : Int} {d q r : Nat} {e : E} {t : Bool} (h : ¬ stAt l q < least) (hr : rFrom l f (nxS (stAt l q)) d (q + 1) = .bad r t) : rLoop l (f + 1) least d e q = .bad r t := by
  rw [rLoop, if_neg h, hr]
theorem PO.ok' {w w' : World} {g n tc d q : Nat} {ta : Option Addr} {z : Rz} {e : E} {v : Value} (hz : z = .ok e q) (h1 : w'.ownsRow w.heap.size 47 3 v e.flat.length (xcv e.flat)) (h2 : Bk w' g (rdC ta n tc q d false) 40) (h3 : w.grownBy w' (some g)) : PO w g ta n tc d z (.returned (.tuple #[v, .bool true])) w' := by
  subst hz
  unfold PO
  exact ⟨v, rfl, h1, h2, h3⟩
theorem PO.bad' {w w' : World} {g n tc d d' q : Nat} {t : Bool} {ta : Option Addr} {z : Rz} (hz : z = .bad q t) (h2 : Bk w' g (rdC ta n tc q d' t) 40) (h3 : w.grownBy w' (some g)) : PO w g ta n tc d z (.returned (.tuple #[.slice none 0 0, .bool false])) w' := by
  subst hz
  unfold PO
  exact ⟨rfl, ⟨d', h2⟩, h3⟩

/-- What is carried: a part that is read, and how it goes on; or where it ended. -/
def LJ (w : World) (g : Nat) (ta : Option Addr) (tc : Nat) (l : List T.Tk) (f : Nat) (least : Int) (d : Nat) (Z : Rz) (v o : Value) (w' : World) : Prop :=
  (∃ (f' : Nat) (e : E) (q : Nat), o = .bool true ∧ Hid (Z = rLoop l f' least d e q) ∧ 4 * (l.length - q) + 1 ≤ f' ∧ f' ≤ f ∧ q ≤ l.length ∧ e.flat.length ≤ q ∧ w'.ownsRow w.heap.size 47 3 v e.flat.length (xcv e.flat) ∧ Bk w' g (rdC ta l.length tc q d false) 40 ∧ w.grownBy w' (some g)) ∨
  (∃ (q : Nat) (t : Bool) (d' : Nat), o = .bool false ∧ Hid (Z = .bad q t) ∧ Bk w' g (rdC ta l.length tc q d' t) 40 ∧ w.grownBy w' (some g))
theorem LJ.start {w w' : World} {g tc f d p : Nat} {ta : Option Addr} {l : List T.Tk} {least : Int} {e : Ending} (hp : p ≤ l.length) (hf : 4 * (l.length - p) + 1 ≤ f) (h : PO w g ta l.length tc d (rOne l f d p) e w') :
    ∃ v o, e = .returned (.tuple #[v, o]) ∧ LJ w g ta tc l f least d (rFrom l (f + 1) least d p) v o w' := by
  have hA := (after_all l f).1 d p hp
  have hz : rFrom l (f + 1) least d p = match rOne l f d p with | .ok e q => rLoop l f least d e q | .bad q t => .bad q t := by rw [rFrom]; rfl
  rw [hz]
  cases hZ : rOne l f d p with
  | ok a q =>
    rw [hZ] at h hA
    obtain ⟨a1, a2, a3⟩ := hA
    unfold PO at h
    obtain ⟨v, h1, h2, h3, h4⟩ := h
    exact ⟨v, .bool true, h1, .inl ⟨f, a, q, rfl, hide rfl, by omega, Nat.le_refl _, a2, by omega, h2, h3, h4⟩⟩
  | bad q t =>
    rw [hZ] at h
    unfold PO at h
    obtain ⟨h1, ⟨d', h2⟩, h3⟩ := h
    exact ⟨.slice none 0 0, .bool false, h1, .inr ⟨q, t, d', rfl, hide rfl, h2, h3⟩⟩

set_option maxRecDepth 20000 in
set_option maxHeartbeats 40000000 in
theorem readFrom_step (g : Nat) (ta : Option Addr) (tc : Nat) (l : List T.Tk) (f : Nat) (hl : l.length ≤ 1000) (ih : ∀ f', f' ≤ f → PS g ta tc l f') (least : Int) (d p : Nat) (w : World) (hleast : 1 ≤ least) (hd : d ≤ 100) (hp : p ≤ l.length) (hf : 4 * (l.length - p) + 2 ≤ f + 1) (he : Env w g ta l) (hb : Bk w g (rdC ta l.length tc p d false) 40) :
    Calls Tryd.prog 14 #[.pointer (some ⟨g, 0, none⟩), .int .i64 least] w (PO w g ta l.length tc d (rFrom l (f + 1) least d p)) := by
  have HC := hide ((ih f (Nat.le_refl _)).1 d p w hd hp (by omega) he hb)
  have HIH := hide ih
  have HE := hide he
  have hgl := hb.lt
  have HS := hide (fun (e : Ending) (w' : World) (h : PO w g ta l.length tc d (rOne l f d p) e w') => LJ.start (least := least) hp (by omega) h)
  obtain ⟨Y, hY⟩ : ∃ Y, Y = rOne l f d p := ⟨_, rfl⟩
  obtain ⟨Z, hZ⟩ : ∃ Z, Z = rFrom l (f + 1) least d p := ⟨_, rfl⟩
  rw [← hY] at HC HS
  rw [← hZ] at HS ⊢
  clear hZ hY ih he hb
  go_enter Tryd.func14, Tryd.ntmps14
  go_wp2_with fail
  refine Calls.mono HC.out ?_
  intro e1 w1 hpo
  obtain ⟨v, o, rfl, hlj⟩ := HS.out _ _ hpo
  have HJ := hide hlj
  clear hlj hpo HC HS
  go_wp2_with fail
  go_loopw [6, 7] (fun v o w' => LJ w g ta tc l f least d Z v o w') (fun _ _ w' => l.length + 1 - nxOf w' g)
  case atStart => exact HJ.out
  case round =>
    clear HJ
    unfold LJ at hrel
    rcases hrel with ⟨f', e, q, rfl, HZ, g1, g2, g3, g4, ho, hbk, hgr⟩ | ⟨q, t, d', rfl, HZ, hbk, hgr⟩
    · obtain ⟨k, rfl⟩ : ∃ k, f' = k + 1 := ⟨f' - 1, by omega⟩
      have HNr := hide (nxOf_bk hbk)
      have HS1 := hide (signBetween_any g ta tc l q d false wr hl g3 hbk (HE.out.grown hgr).row (HE.out.grown hgr).tab)
      obtain ⟨s0, s7⟩ := stAt_bd l q
      have hlt := stAt_lt (l := l) (p := q)
      obtain ⟨S, hS⟩ : ∃ S, S = stAt l q := ⟨_, rfl⟩
      rw [← hS] at HS1 s0 s7 hlt
      have HSe := hide hS
      have HBr := hide hbk
      have HGr := hide hgr
      obtain ⟨FL, hFL⟩ : ∃ FL, FL = e.flat := ⟨_, rfl⟩
      have HFL := hide hFL
      rw [← hFL] at ho g4
      obtain ⟨FN, hFN⟩ : ∃ FN, FN = FL.length := ⟨_, rfl⟩
      rw [← hFN] at ho g4
      have HFN := hide hFN
      obtain ⟨va, vc, rfl⟩ := own_form' ho
      have HO := hide ho
      have hq0 : (0 : Int) ≤ (q : Int) := by omega
      clear hFL hFN hS ho hbk hgr
      by_cases hle : S < least
      · have HZ2 : Hid (Z = .ok e q) := hide (by rw [HZ.out]; exact loop_end (by omega) (by rw [← HSe.out]; exact hle))
        clear HZ HSe HIH hlt
        go_wp2_with fail
        refine Calls.mono HS1.out ?_
        rintro e1 w1 ⟨⟨s, rfl, hs⟩, hb1⟩
        have HB1 := hide (HBr.out.below hb1)
        have HG1 := hide (gr_trans HGr.out (gr_below (some g) hb1))
        have HO1 := hide (own_below HO.out hb1)
        clear hb1 hs HS1 HBr HGr HO
        go_wp2_with fail
        exact bodyPost_ret (v := .tuple #[.slice va FN vc, .bool true]) (by simp [results, Tryd.results14, go_sem]) rfl (PO.ok' HZ2.out (by rw [← HFL.out, ← HFN.out]; exact HO1.out) HB1.out HG1.out)
      · have hqlt : q < l.length := hlt (by omega)
        by_cases h7 : S = 7
        · subst h7
          have hnx : nxS 7 = 7 := by unfold nxS; rw [if_pos rfl]
          rw [decide_eq_true rfl] at HS1
          have HI := hide (fun (w' : World) (h1 : Env w' g ta l) (h2 : Bk w' g (rdC ta l.length tc (q + 1) d false) 40) => (HIH.out k (by omega)).2.2.2 (nxS 7) d (q + 1) w' (nxS_one (by omega)) hd (by omega) (by omega) h1 h2)
          have hY2 := (after_all l k).2.2.2.1 (nxS 7) d (q + 1) (nxS_one (by omega)) (by omega)
          rw [hnx] at HI hY2
          obtain ⟨Y2, hY2e⟩ : ∃ Y2, Y2 = rFrom l k (7) d (q + 1) := ⟨_, rfl⟩
          have hY2f : rFrom l k (nxS (stAt l q)) d (q + 1) = Y2 := by rw [← HSe.out, hnx, hY2e]
          rw [← hY2e] at HI hY2
          clear hY2e hnx
          cases Y2 with
          | bad r t =>
            have HZ2 : Hid (Z = .bad r t) := hide (by rw [HZ.out]; exact loop_bad (by rw [← HSe.out]; exact hle) hY2f)
            obtain ⟨y1, y2⟩ := hY2
            unfold PO at HI
            simp only at HI
            clear hY2f HZ HSe HIH
            go_wp2_with fail
            refine Calls.mono HS1.out ?_
            rintro e1 w1 ⟨⟨s, rfl, hs⟩, hb1⟩
            have HB1 := hide (HBr.out.below hb1)
            have HG1 := hide (gr_trans HGr.out (gr_below (some g) hb1))
            have HO1 := hide (own_below HO.out hb1)
            have c1 := HB1.out.c
            have fz := HB1.out.f
            unfold rdC at c1
            clear hb1 hs HS1 HBr HGr HO
            go_upto_region 9 with fail
            obtain ⟨W, hW⟩ : ∃ W, W = w1.setCell ⟨g, 1, none⟩ (.int .i64 ((q : Int) + 1)) := ⟨_, rfl⟩
            rw [← hW]
            have HGW : Hid (w.grownBy W (some g)) := hide (by rw [hW]; exact gr_set HG1.out _ _)
            have HBW : Hid (Bk W g (rdC ta l.length tc (q + 1) d false) 40) := hide (by
              have hz := HB1.out.set 1 (.int .i64 ((q : Int) + 1))
              simp only [rdC, List.setIfInBounds_toArray, List.set_cons_zero, List.set_cons_succ] at hz
              rw [hW]; unfold rdC; rw [show ((q + 1 : Nat) : Int) = (q : Int) + 1 by omega]; exact hz)
            have HOW : Hid (W.ownsRow w.heap.size 47 3 (.slice va FN vc) FN (xcv FL)) := hide (by rw [hW]; exact own_gr HO1.out (gr_set (gr_refl w1 (some g)) 1 _) hgl)
            have hsW : w.heap.size ≤ W.heap.size := HGW.out.size
            clear hW c1 fz HB1 HG1 HO1
            go_wp2_with fail
            refine Calls.mono (HI.out W (HE.out.grown HGW.out) HBW.out) ?_
            rintro e0 w2 ⟨rfl, ⟨d', hb2⟩, hg2⟩
            have HG2 := hide (gr_trans HGW.out hg2)
            have HB2 := hide hb2
            have HOL2 := hide (own_gr HOW.out hg2 hgl)
            have hs2 : w.heap.size ≤ w2.heap.size := HG2.out.size
            clear hb2 hg2 HI HGW HBW HOW
            go_wp2_with (at_builtin; refine wpList_append_x rfl _ _ rfl w2.heap.size _ 1 (xcv [⟨5, 0, s⟩]) rfl (own_new1 (heap_alloc_new w2 _) (Nat.le_refl _)) _ FN (xcv FL) rfl (by rw [HFN.out]; exact PtX.own (by have h := HOL2.out.alloc (.cells #[.int .i64 5, .int .i64 0, .string s] 47); rw [HFN.out] at h; exact h)) (by omega) (by simp) ?_)
            intro v4 w4 ho4 hg4
            obtain ⟨a4, c4, rfl⟩ := own_form' ho4
            have HO4 := hide ho4
            have HG24 := hide (gr_mix (gr_refl w2 (some g)) hg4)
            have HG4 := hide (gr_mix HG2.out hg4)
            have HB4 := hide (HB2.out.mix hg4)
            have HK4 := hide ho4.lt
            have hs4 : w2.heap.size ≤ w4.heap.size := HG24.out.size
            clear ho4 hg4 HG2 HB2 HOL2
            go_wp2_with (at_builtin; refine wpList_append_x rfl _ _ rfl w2.heap.size _ (1 + FN) (xcv [⟨5, 0, s⟩] ++ xcv FL) rfl HO4.out _ 0 (xcv []) rfl PtX.nil (by omega) hs4 ?_)
            intro v5 w5 ho5 hg5
            obtain ⟨a5, c5, rfl⟩ := own_form' ho5
            have HO5 := hide ho5
            have HG5 := hide (gr_row HG4.out hg5 (fun k hk => by have := (HK4.out k hk).1; omega))
            have HB5 := hide (HB4.out.row hg5 (fun k hk => by have := (HK4.out k hk).1; omega))
            have HN5 := hide (nxOf_bk HB5.out)
            clear ho5 hg5 HG4 HB4 HO4 HG24 HK4
            go_wp2_with fail
            refine ⟨.inr ⟨r, t, d', rfl, HZ2, HB5.out, HG5.out⟩, ?_⟩
            have a := HN5.out
            have b := HNr.out
            show l.length + 1 - nxOf _ g < l.length + 1 - nxOf _ g
            rw [a, b]
            omega
          | ok r2 r =>
            obtain ⟨y1, y2, y3⟩ := hY2
            unfold PO at HI
            simp only at HI
            have HZ2a := hide hY2f
            clear hY2f
            go_wp2_with fail
            refine Calls.mono HS1.out ?_
            rintro e1 w1 ⟨⟨s, rfl, hs⟩, hb1⟩
            have hsx : s = txAt l q := hs (by omega)
            have HZ2 : Hid (Z = rLoop l k least d (.two ⟨5, 0, s⟩ e r2) r) := hide (by rw [HZ.out, hsx]; exact loop_ok (by rw [← HSe.out]; omega) HZ2a.out)
            clear hsx HZ2a HZ HSe HIH
            have HB1 := hide (HBr.out.below hb1)
            have HG1 := hide (gr_trans HGr.out (gr_below (some g) hb1))
            have HO1 := hide (own_below HO.out hb1)
            have c1 := HB1.out.c
            have fz := HB1.out.f
            unfold rdC at c1
            clear hb1 hs HS1 HBr HGr HO
            obtain ⟨RL, hRL⟩ : ∃ RL, RL = r2.flat := ⟨_, rfl⟩
            have HRL := hide hRL
            obtain ⟨RN, hRN⟩ : ∃ RN, RN = RL.length := ⟨_, rfl⟩
            have HRN := hide hRN
            have HF5 : Hid ((E.two ⟨5, 0, s⟩ e r2).flat.length = 1 + FN + RN) := hide (by rw [hRN, hRL, HFN.out, HFL.out]; simp [E.flat]; omega)
            have hrb : RN ≤ r - (q + 1) := by rw [hRN, hRL]; exact y3
            rw [← hRL, ← hRN] at HI
            clear hRN hRL
            go_upto_region 9 with fail
            obtain ⟨W, hW⟩ : ∃ W, W = w1.setCell ⟨g, 1, none⟩ (.int .i64 ((q : Int) + 1)) := ⟨_, rfl⟩
            rw [← hW]
            have HGW : Hid (w.grownBy W (some g)) := hide (by rw [hW]; exact gr_set HG1.out _ _)
            have HBW : Hid (Bk W g (rdC ta l.length tc (q + 1) d false) 40) := hide (by
              have hz := HB1.out.set 1 (.int .i64 ((q : Int) + 1))
              simp only [rdC, List.setIfInBounds_toArray, List.set_cons_zero, List.set_cons_succ] at hz
              rw [hW]; unfold rdC; rw [show ((q + 1 : Nat) : Int) = (q : Int) + 1 by omega]; exact hz)
            have HOW : Hid (W.ownsRow w.heap.size 47 3 (.slice va FN vc) FN (xcv FL)) := hide (by rw [hW]; exact own_gr HO1.out (gr_set (gr_refl w1 (some g)) 1 _) hgl)
            have hsW : w.heap.size ≤ W.heap.size := HGW.out.size
            clear hW c1 fz HB1 HG1 HO1
            go_wp2_with fail
            refine Calls.mono (HI.out W (HE.out.grown HGW.out) HBW.out) ?_
            rintro e0 w2 ⟨v2, rfl, ho2, hb2, hg2⟩
            obtain ⟨ra, rc, rfl⟩ := own_form' ho2
            have HOR := hide (own_lower' ho2 hsW)
            have HG2 := hide (gr_trans HGW.out hg2)
            have HB2 := hide hb2
            have HOL2 := hide (own_gr HOW.out hg2 hgl)
            have hs2 : w.heap.size ≤ w2.heap.size := HG2.out.size
            clear ho2 hb2 hg2 HI HGW HBW HOW
            go_wp2_with (at_builtin; refine wpList_append_x rfl _ _ rfl w2.heap.size _ 1 (xcv [⟨5, 0, s⟩]) rfl (own_new1 (heap_alloc_new w2 _) (Nat.le_refl _)) _ FN (xcv FL) rfl (by rw [HFN.out]; exact PtX.own (by have h := HOL2.out.alloc (.cells #[.int .i64 5, .int .i64 0, .string s] 47); rw [HFN.out] at h; exact h)) (by omega) (by simp) ?_)
            intro v4 w4 ho4 hg4
            obtain ⟨a4, c4, rfl⟩ := own_form' ho4
            have HO4 := hide ho4
            have HG24 := hide (gr_mix (gr_refl w2 (some g)) hg4)
            have HG4 := hide (gr_mix HG2.out hg4)
            have HB4 := hide (HB2.out.mix hg4)
            have HK4 := hide ho4.lt
            have hs4 : w2.heap.size ≤ w4.heap.size := HG24.out.size
            have HOR4 := hide (own_gr HOR.out HG24.out (by omega))
            clear ho4 hg4 HG2 HB2 HOL2 HOR
            go_wp2_with (at_builtin; refine wpList_append_x rfl _ _ rfl w2.heap.size _ (1 + FN) (xcv [⟨5, 0, s⟩] ++ xcv FL) rfl HO4.out _ RN (xcv RL) rfl (by rw [HRN.out]; exact PtX.own (by have h := HOR4.out; rw [HRN.out] at h; exact h)) (by omega) hs4 ?_)
            intro v5 w5 ho5 hg5
            obtain ⟨a5, c5, rfl⟩ := own_form' ho5
            have HO5 := hide ho5
            have HG5 := hide (gr_row HG4.out hg5 (fun k hk => by have := (HK4.out k hk).1; omega))
            have HB5 := hide (HB4.out.row hg5 (fun k hk => by have := (HK4.out k hk).1; omega))
            have HN5 := hide (nxOf_bk HB5.out)
            clear ho5 hg5 HG4 HB4 HO4 HG24 HK4 HOR4
            go_wp2_with fail
            refine ⟨.inl ⟨k, .two ⟨5, 0, s⟩ e r2, r, rfl, HZ2, by omega, by omega, by omega, ?_, ?_, HB5.out, HG5.out⟩, ?_⟩
            · have := HF5.out
              rw [this]; omega
            · have h5 := HO5.out
              have e5 : xcv (E.two ⟨5, 0, s⟩ e r2).flat = (xcv [⟨5, 0, s⟩] ++ xcv FL) ++ xcv RL := by
                show xcv ([⟨5, 0, s⟩] ++ (e.flat ++ r2.flat)) = _
                rw [xcv_app, xcv_app, ← HFL.out, ← HRL.out, List.append_assoc]
              rw [e5, HF5.out]
              exact own_lower' h5 hs2
            · have a := HN5.out
              have b := HNr.out
              show l.length + 1 - nxOf _ g < l.length + 1 - nxOf _ g
              rw [a, b]
              omega
        · have hnx : nxS S = S + 1 := by unfold nxS; rw [if_neg h7]
          rw [decide_eq_false h7] at HS1
          have HI := hide (fun (w' : World) (h1 : Env w' g ta l) (h2 : Bk w' g (rdC ta l.length tc (q + 1) d false) 40) => (HIH.out k (by omega)).2.2.2 (nxS S) d (q + 1) w' (nxS_one (by omega)) hd (by omega) (by omega) h1 h2)
          have hY2 := (after_all l k).2.2.2.1 (nxS S) d (q + 1) (nxS_one (by omega)) (by omega)
          rw [hnx] at HI hY2
          obtain ⟨Y2, hY2e⟩ : ∃ Y2, Y2 = rFrom l k (S + 1) d (q + 1) := ⟨_, rfl⟩
          have hY2f : rFrom l k (nxS (stAt l q)) d (q + 1) = Y2 := by rw [← HSe.out, hnx, hY2e]
          rw [← hY2e] at HI hY2
          clear hY2e hnx
          cases Y2 with
          | bad r t =>
            have HZ2 : Hid (Z = .bad r t) := hide (by rw [HZ.out]; exact loop_bad (by rw [← HSe.out]; exact hle) hY2f)
            obtain ⟨y1, y2⟩ := hY2
            unfold PO at HI
            simp only at HI
            clear hY2f HZ HSe HIH
            go_wp2_with fail
            refine Calls.mono HS1.out ?_
            rintro e1 w1 ⟨⟨s, rfl, hs⟩, hb1⟩
            have HB1 := hide (HBr.out.below hb1)
            have HG1 := hide (gr_trans HGr.out (gr_below (some g) hb1))
            have HO1 := hide (own_below HO.out hb1)
            have c1 := HB1.out.c
            have fz := HB1.out.f
            unfold rdC at c1
            clear hb1 hs HS1 HBr HGr HO
            go_upto_region 9 with fail
            obtain ⟨W, hW⟩ : ∃ W, W = w1.setCell ⟨g, 1, none⟩ (.int .i64 ((q : Int) + 1)) := ⟨_, rfl⟩
            rw [← hW]
            have HGW : Hid (w.grownBy W (some g)) := hide (by rw [hW]; exact gr_set HG1.out _ _)
            have HBW : Hid (Bk W g (rdC ta l.length tc (q + 1) d false) 40) := hide (by
              have hz := HB1.out.set 1 (.int .i64 ((q : Int) + 1))
              simp only [rdC, List.setIfInBounds_toArray, List.set_cons_zero, List.set_cons_succ] at hz
              rw [hW]; unfold rdC; rw [show ((q + 1 : Nat) : Int) = (q : Int) + 1 by omega]; exact hz)
            have HOW : Hid (W.ownsRow w.heap.size 47 3 (.slice va FN vc) FN (xcv FL)) := hide (by rw [hW]; exact own_gr HO1.out (gr_set (gr_refl w1 (some g)) 1 _) hgl)
            have hsW : w.heap.size ≤ W.heap.size := HGW.out.size
            clear hW c1 fz HB1 HG1 HO1
            go_wp2_with fail
            refine Calls.mono (HI.out W (HE.out.grown HGW.out) HBW.out) ?_
            rintro e0 w2 ⟨rfl, ⟨d', hb2⟩, hg2⟩
            have HG2 := hide (gr_trans HGW.out hg2)
            have HB2 := hide hb2
            have HOL2 := hide (own_gr HOW.out hg2 hgl)
            have hs2 : w.heap.size ≤ w2.heap.size := HG2.out.size
            clear hb2 hg2 HI HGW HBW HOW
            go_wp2_with (at_builtin; refine wpList_append_x rfl _ _ rfl w2.heap.size _ 1 (xcv [⟨5, 0, s⟩]) rfl (own_new1 (heap_alloc_new w2 _) (Nat.le_refl _)) _ FN (xcv FL) rfl (by rw [HFN.out]; exact PtX.own (by have h := HOL2.out.alloc (.cells #[.int .i64 5, .int .i64 0, .string s] 47); rw [HFN.out] at h; exact h)) (by omega) (by simp) ?_)
            intro v4 w4 ho4 hg4
            obtain ⟨a4, c4, rfl⟩ := own_form' ho4
            have HO4 := hide ho4
            have HG24 := hide (gr_mix (gr_refl w2 (some g)) hg4)
            have HG4 := hide (gr_mix HG2.out hg4)
            have HB4 := hide (HB2.out.mix hg4)
            have HK4 := hide ho4.lt
            have hs4 : w2.heap.size ≤ w4.heap.size := HG24.out.size
            clear ho4 hg4 HG2 HB2 HOL2
            go_wp2_with (at_builtin; refine wpList_append_x rfl _ _ rfl w2.heap.size _ (1 + FN) (xcv [⟨5, 0, s⟩] ++ xcv FL) rfl HO4.out _ 0 (xcv []) rfl PtX.nil (by omega) hs4 ?_)
            intro v5 w5 ho5 hg5
            obtain ⟨a5, c5, rfl⟩ := own_form' ho5
            have HO5 := hide ho5
            have HG5 := hide (gr_row HG4.out hg5 (fun k hk => by have := (HK4.out k hk).1; omega))
            have HB5 := hide (HB4.out.row hg5 (fun k hk => by have := (HK4.out k hk).1; omega))
            have HN5 := hide (nxOf_bk HB5.out)
            clear ho5 hg5 HG4 HB4 HO4 HG24 HK4
            go_wp2_with fail
            refine ⟨.inr ⟨r, t, d', rfl, HZ2, HB5.out, HG5.out⟩, ?_⟩
            have a := HN5.out
            have b := HNr.out
            show l.length + 1 - nxOf _ g < l.length + 1 - nxOf _ g
            rw [a, b]
            omega
          | ok r2 r =>
            obtain ⟨y1, y2, y3⟩ := hY2
            unfold PO at HI
            simp only at HI
            have HZ2a := hide hY2f
            clear hY2f
            go_wp2_with fail
            refine Calls.mono HS1.out ?_
            rintro e1 w1 ⟨⟨s, rfl, hs⟩, hb1⟩
            have hsx : s = txAt l q := hs (by omega)
            have HZ2 : Hid (Z = rLoop l k least d (.two ⟨5, 0, s⟩ e r2) r) := hide (by rw [HZ.out, hsx]; exact loop_ok (by rw [← HSe.out]; omega) HZ2a.out)
            clear hsx HZ2a HZ HSe HIH
            have HB1 := hide (HBr.out.below hb1)
            have HG1 := hide (gr_trans HGr.out (gr_below (some g) hb1))
            have HO1 := hide (own_below HO.out hb1)
            have c1 := HB1.out.c
            have fz := HB1.out.f
            unfold rdC at c1
            clear hb1 hs HS1 HBr HGr HO
            obtain ⟨RL, hRL⟩ : ∃ RL, RL = r2.flat := ⟨_, rfl⟩
            have HRL := hide hRL
            obtain ⟨RN, hRN⟩ : ∃ RN, RN = RL.length := ⟨_, rfl⟩
            have HRN := hide hRN
            have HF5 : Hid ((E.two ⟨5, 0, s⟩ e r2).flat.length = 1 + FN + RN) := hide (by rw [hRN, hRL, HFN.out, HFL.out]; simp [E.flat]; omega)
            have hrb : RN ≤ r - (q + 1) := by rw [hRN, hRL]; exact y3
            rw [← hRL, ← hRN] at HI
            clear hRN hRL
            go_upto_region 9 with fail
            obtain ⟨W, hW⟩ : ∃ W, W = w1.setCell ⟨g, 1, none⟩ (.int .i64 ((q : Int) + 1)) := ⟨_, rfl⟩
            rw [← hW]
            have HGW : Hid (w.grownBy W (some g)) := hide (by rw [hW]; exact gr_set HG1.out _ _)
            have HBW : Hid (Bk W g (rdC ta l.length tc (q + 1) d false) 40) := hide (by
              have hz := HB1.out.set 1 (.int .i64 ((q : Int) + 1))
              simp only [rdC, List.setIfInBounds_toArray, List.set_cons_zero, List.set_cons_succ] at hz
              rw [hW]; unfold rdC; rw [show ((q + 1 : Nat) : Int) = (q : Int) + 1 by omega]; exact hz)
            have HOW : Hid (W.ownsRow w.heap.size 47 3 (.slice va FN vc) FN (xcv FL)) := hide (by rw [hW]; exact own_gr HO1.out (gr_set (gr_refl w1 (some g)) 1 _) hgl)
            have hsW : w.heap.size ≤ W.heap.size := HGW.out.size
            clear hW c1 fz HB1 HG1 HO1
            go_wp2_with fail
            refine Calls.mono (HI.out W (HE.out.grown HGW.out) HBW.out) ?_
            rintro e0 w2 ⟨v2, rfl, ho2, hb2, hg2⟩
            obtain ⟨ra, rc, rfl⟩ := own_form' ho2
            have HOR := hide (own_lower' ho2 hsW)
            have HG2 := hide (gr_trans HGW.out hg2)
            have HB2 := hide hb2
            have HOL2 := hide (own_gr HOW.out hg2 hgl)
            have hs2 : w.heap.size ≤ w2.heap.size := HG2.out.size
            clear ho2 hb2 hg2 HI HGW HBW HOW
            go_wp2_with (at_builtin; refine wpList_append_x rfl _ _ rfl w2.heap.size _ 1 (xcv [⟨5, 0, s⟩]) rfl (own_new1 (heap_alloc_new w2 _) (Nat.le_refl _)) _ FN (xcv FL) rfl (by rw [HFN.out]; exact PtX.own (by have h := HOL2.out.alloc (.cells #[.int .i64 5, .int .i64 0, .string s] 47); rw [HFN.out] at h; exact h)) (by omega) (by simp) ?_)
            intro v4 w4 ho4 hg4
            obtain ⟨a4, c4, rfl⟩ := own_form' ho4
            have HO4 := hide ho4
            have HG24 := hide (gr_mix (gr_refl w2 (some g)) hg4)
            have HG4 := hide (gr_mix HG2.out hg4)
            have HB4 := hide (HB2.out.mix hg4)
            have HK4 := hide ho4.lt
            have hs4 : w2.heap.size ≤ w4.heap.size := HG24.out.size
            have HOR4 := hide (own_gr HOR.out HG24.out (by omega))
            clear ho4 hg4 HG2 HB2 HOL2 HOR
            go_wp2_with (at_builtin; refine wpList_append_x rfl _ _ rfl w2.heap.size _ (1 + FN) (xcv [⟨5, 0, s⟩] ++ xcv FL) rfl HO4.out _ RN (xcv RL) rfl (by rw [HRN.out]; exact PtX.own (by have h := HOR4.out; rw [HRN.out] at h; exact h)) (by omega) hs4 ?_)
            intro v5 w5 ho5 hg5
            obtain ⟨a5, c5, rfl⟩ := own_form' ho5
            have HO5 := hide ho5
            have HG5 := hide (gr_row HG4.out hg5 (fun k hk => by have := (HK4.out k hk).1; omega))
            have HB5 := hide (HB4.out.row hg5 (fun k hk => by have := (HK4.out k hk).1; omega))
            have HN5 := hide (nxOf_bk HB5.out)
            clear ho5 hg5 HG4 HB4 HO4 HG24 HK4 HOR4
            go_wp2_with fail
            refine ⟨.inl ⟨k, .two ⟨5, 0, s⟩ e r2, r, rfl, HZ2, by omega, by omega, by omega, ?_, ?_, HB5.out, HG5.out⟩, ?_⟩
            · have := HF5.out
              rw [this]; omega
            · have h5 := HO5.out
              have e5 : xcv (E.two ⟨5, 0, s⟩ e r2).flat = (xcv [⟨5, 0, s⟩] ++ xcv FL) ++ xcv RL := by
                show xcv ([⟨5, 0, s⟩] ++ (e.flat ++ r2.flat)) = _
                rw [xcv_app, xcv_app, ← HFL.out, ← HRL.out, List.append_assoc]
              rw [e5, HF5.out]
              exact own_lower' h5 hs2
            · have a := HN5.out
              have b := HNr.out
              show l.length + 1 - nxOf _ g < l.length + 1 - nxOf _ g
              rw [a, b]
              omega
    · have HB1 := hide hbk
      have HG1 := hide hgr
      clear hbk hgr HE HIH
      go_wp2_with fail
      exact bodyPost_ret (v := .tuple #[.slice none 0 0, .bool false]) (by simp [results, Tryd.results14, go_sem]) rfl (PO.bad' HZ.out HB1.out HG1.out)
end Go.Proofs.YtmnicilgenpnfaaDoor.W

/-
  The specification's all: a part, and signs of two behind it. Written by build/mk_psg.py. Conditions: at most 1000 tokens.
-/
import Derived.Test.YtmnicilgenpnfaaDoorPsD
import Derived.Test.YtmnicilgenpnfaaDoorPxF
namespace Go.Proofs.YtmnicilgenpnfaaDoor.W
open Go.ChangeShapes Go.WideShapes Go.ChangeAt Go.RowKit
set_option linter.unusedVariables false
set_option linter.unusedSimpArgs false

/-- As Lies and TrK, of blocks that have a property. -/
def LiesP (w : World) (P : Nat → Prop) (s : Value) (n : Nat) (cs : List Value) : Prop :=
  ∃ g cap, s = .slice (some ⟨g, 0, none⟩) n cap ∧ P g ∧ g < w.heap.size ∧ ∀ j v, cs[j]? = some v → w.cell? ⟨g, j, none⟩ = some v
theorem LiesP.keep {w w' : World} {P : Nat → Prop} {s : Value} {n : Nat} {cs : List Value} (h : LiesP w P s n cs) (hs : w.heap.size ≤ w'.heap.size) (hk : ∀ k, P k → k < w.heap.size → w'.heap[k]? = w.heap[k]?) : LiesP w' P s n cs := by
  obtain ⟨g, cap, h1, h0, h2, h3⟩ := h
  exact ⟨g, cap, h1, h0, Nat.lt_of_lt_of_le h2 hs, fun j v hj => (World.cell?_of_block (w := w) (hk g h0 h2)).trans (h3 j v hj)⟩
def TrP (w : World) (P : Nat → Prop) : E → Value → Prop
  | .leaf _, s => s = .slice none 0 0
  | .one _ a, s => ∃ sa, TrP w P a sa ∧ LiesP w P s 1 (exC a.head sa)
  | .two _ a b, s => ∃ sa sb, TrP w P a sa ∧ TrP w P b sb ∧ LiesP w P s 2 (exC a.head sa ++ exC b.head sb)
theorem TrP.keep {w w' : World} {P : Nat → Prop} (hs : w.heap.size ≤ w'.heap.size) (hk : ∀ k, P k → k < w.heap.size → w'.heap[k]? = w.heap[k]?) : ∀ {e : E} {s : Value}, TrP w P e s → TrP w' P e s
  | .leaf _, _, h => h
  | .one _ _, _, ⟨sa, h1, h2⟩ => ⟨sa, TrP.keep hs hk h1, h2.keep hs hk⟩
  | .two _ _ _, _, ⟨sa, sb, h1, h2, h3⟩ => ⟨sa, sb, TrP.keep hs hk h1, TrP.keep hs hk h2, h3.keep hs hk⟩
theorem TrP.of {w : World} {P : Nat → Prop} {lo : Nat} (hP : ∀ k, lo ≤ k → k < w.heap.size → P k) : ∀ {e : E} {s : Value}, TrK w lo e s → TrP w P e s
  | .leaf _, _, h => h
  | .one _ _, _, ⟨sa, h1, g, cap, a1, a2, a3, a4⟩ => ⟨sa, TrP.of hP h1, g, cap, a1, hP g a2 a3, a3, a4⟩
  | .two _ _ _, _, ⟨sa, sb, h1, h2, g, cap, a1, a2, a3, a4⟩ => ⟨sa, sb, TrP.of hP h1, TrP.of hP h2, g, cap, a1, hP g a2 a3, a3, a4⟩
theorem TrP.to {w : World} {P : Nat → Prop} {lo : Nat} (hP : ∀ k, P k → lo ≤ k) : ∀ {e : E} {s : Value}, TrP w P e s → TrK w lo e s
  | .leaf _, _, h => h
  | .one _ _, _, ⟨sa, h1, g, cap, a1, a2, a3, a4⟩ => ⟨sa, TrP.to hP h1, g, cap, a1, hP g a2, a3, a4⟩
  | .two _ _ _, _, ⟨sa, sb, h1, h2, g, cap, a1, a2, a3, a4⟩ => ⟨sa, sb, TrP.to hP h1, TrP.to hP h2, g, cap, a1, hP g a2, a3, a4⟩
theorem TrP.form {w : World} {P : Nat → Prop} : ∀ {e : E} {s : Value}, TrP w P e s → ∃ ad n c, s = .slice ad n c
  | .leaf _, _, h => ⟨_, _, _, h⟩
  | .one _ _, _, ⟨_, _, _, _, h, _⟩ => ⟨_, _, _, h⟩
  | .two _ _ _, _, ⟨_, _, _, _, _, _, h, _⟩ => ⟨_, _, _, h⟩
/-- Blocks above lo that are not K. -/
def Off (lo K : Nat) (k : Nat) : Prop := lo < k ∧ k ≠ K
/-- What is carried: a part that is read, and how it goes on; or where it ended. -/
def LS (w : World) (g : Nat) (ta : Option Addr) (tc en : Nat) (l : List T.Tk) (f : Nat) (least : Int) (d : Nat) (Z : Rz) (K : Nat) (w' : World) : Prop :=
  Bk w' w.heap.size #[.int .i64 0, .int .i64 0, .string ⟨#[]⟩, .slice none 0 0] 36 ∧ w.grownBy w' (some g) ∧
  ((∃ (f' : Nat) (e : E) (q : Nat) (x : Xx) (a : Option Addr) (n c : Nat), Hid (Z = rLoop l f' least d e q) ∧ 4 * (l.length - q) + 1 ≤ f' ∧ f' ≤ f ∧ q ≤ l.length ∧ Hid (x = e.head) ∧ Bk w' K #[.int .i64 x.k, .int .i64 x.n, .string x.t, .slice a n c] 36 ∧ TrP w' (Off w.heap.size K) e (.slice a n c) ∧ Bk w' g (spC ta l.length tc q en (-1) false) 33) ∨
  (∃ (q : Nat) (t : Bool) (q' : Nat) (x : Xx) (a : Option Addr) (n c : Nat), Hid (Z = .bad q t) ∧ Bk w' K #[.int .i64 x.k, .int .i64 x.n, .string x.t, .slice a n c] 36 ∧ Bk w' g (spC ta l.length tc q' en (plc l en q) t) 33))
/-- Where the reader stands, out of its cell. -/
theorem nxOf_sp {w : World} {g : Nat} {ta : Option Addr} {n tc q en : Nat} {b : Int} {t : Bool} (h : Bk w g (spC ta n tc q en b t) 33) : nxOf w g = q := by
  have c := h.c 1
  unfold spC at c
  unfold nxOf
  rw [c]
  simp
theorem Bk.set4_self {w : World} {k : Nat} {T : TypeId} {a0 b0 c0 d0 : Value} (a b c d : Value) (h : Bk w k #[a0, b0, c0, d0] T) : Bk ((((w.setCell ⟨k, 0, none⟩ a).setCell ⟨k, 1, none⟩ b).setCell ⟨k, 2, none⟩ c).setCell ⟨k, 3, none⟩ d) k #[a, b, c, d] T := by
  have hz := (((h.set 0 a).set 1 b).set 2 c).set 3 d
  simp only [List.setIfInBounds_toArray, List.set_cons_zero, List.set_cons_succ] at hz
  exact hz
theorem tree_two {w : World} {K lo m : Nat} {a b c d : Value} {e r : E} {sa sb : Value} (x : Xx) (h1 : TrP w (Off lo K) e sa) (h2 : TrK w m r sb) (hm : K < m) (hlo : lo < K) (hK : K < w.heap.size) :
    TrP (((((w.setCell ⟨K, 0, none⟩ a).setCell ⟨K, 1, none⟩ b).setCell ⟨K, 2, none⟩ c).setCell ⟨K, 3, none⟩ d).alloc (.cells #[.int .i64 e.head.k, .int .i64 e.head.n, .string e.head.t, sa, .int .i64 r.head.k, .int .i64 r.head.n, .string r.head.t, sb] 36)) (Off lo K) (.two x e r) (.slice (some ⟨w.heap.size, 0, none⟩) 2 2) := by
  have hs := set4_size w K a b c d
  have hh := fun j hj => set4_heap w K j a b c d hj
  obtain ⟨Y, hY⟩ : ∃ Y, Y = ((((w.setCell ⟨K, 0, none⟩ a).setCell ⟨K, 1, none⟩ b).setCell ⟨K, 2, none⟩ c).setCell ⟨K, 3, none⟩ d) := ⟨_, rfl⟩
  rw [← hY] at hs hh ⊢
  obtain ⟨O, hO⟩ : ∃ O : Obj, O = .cells #[.int .i64 e.head.k, .int .i64 e.head.n, .string e.head.t, sa, .int .i64 r.head.k, .int .i64 r.head.n, .string r.head.t, sb] 36 := ⟨_, rfl⟩
  rw [← hO]
  have hn := heap_alloc_new Y O
  rw [hs] at hn
  have hsz : (Y.alloc O).heap.size = w.heap.size + 1 := by simp [hs]
  have hkp : ∀ k, Off lo K k → k < w.heap.size → (Y.alloc O).heap[k]? = w.heap[k]? := fun k h h2 => (heap_alloc_old Y _ (by omega)).trans (hh k (by unfold Off at h; omega))
  refine ⟨sa, sb, TrP.keep (by omega) hkp h1, TrP.keep (by omega) hkp (TrP.of (fun k a b => by unfold Off; omega) h2), w.heap.size, 2, rfl, by unfold Off; omega, by omega, fun j v hj => ?_⟩
  rw [hO] at hn
  rw [hO, cell_of_blk hn, ← hj]
  unfold exC
  simp
/-- What is left: nothing where it has failed. -/
def muS (L : Nat) (w : World) (g : Nat) : Nat := match w.cell? ⟨g, 3, none⟩ with
  | some (.int _ b) => if b < 0 then L + 1 - nxOf w g else 0
  | _ => 0
theorem muS_ok {L : Nat} {w : World} {g : Nat} {ta : Option Addr} {n tc q en : Nat} {t : Bool} (h : Bk w g (spC ta n tc q en (-1) t) 33) : muS L w g = L + 1 - q := by
  have c := h.c 3
  unfold spC at c
  unfold muS
  rw [c, nxOf_sp h]
  simp
theorem muS_bad {L : Nat} {w : World} {g : Nat} {ta : Option Addr} {n tc q en : Nat} {b : Int} {t : Bool} (hb : 0 ≤ b) (h : Bk w g (spC ta n tc q en b t) 33) : muS L w g = 0 := by
  have c := h.c 3
  unfold spC at c
  unfold muS
  rw [c]
  simp
  omega
theorem SO.ok' {w w' : World} {g tc en q : Nat} {ta : Option Addr} {l : List T.Tk} {z : Rz} {e : E} {x : Xx} {s : Value} (hz : z = .ok e q) (hx : x = e.head) (h1 : TrK w' w.heap.size e s) (h2 : Bk w' g (spC ta l.length tc q en (-1) false) 33) (h3 : w.grownBy w' (some g)) : SO w g ta tc en l z (.returned (l2v x s)) w' := by
  subst hz hx
  unfold SO
  exact ⟨⟨s, rfl, h1⟩, h2, h3⟩
theorem SO.bad' {w w' : World} {g tc en q q' n c : Nat} {t : Bool} {ta a : Option Addr} {l : List T.Tk} {z : Rz} {x : Xx} (hz : z = .bad q t) (h2 : Bk w' g (spC ta l.length tc q' en (plc l en q) t) 33) (h3 : w.grownBy w' (some g)) : SO w g ta tc en l z (.returned (l2v x (.slice a n c))) w' := by
  subst hz
  unfold SO
  exact ⟨⟨x, a, n, c, rfl⟩, ⟨q', h2⟩, h3⟩
theorem LS.start {w W w1 : World} {g tc en f d : Nat} {ta : Option Addr} {l : List T.Tk} {least : Int} {Y Z : Rz} {e : Ending} (hW : W.heap.size = w.heap.size + 1) (hGW : w.grownBy W (some g)) (hRW : Bk W w.heap.size #[.int .i64 0, .int .i64 0, .string ⟨#[]⟩, .slice none 0 0] 36) (hg : g < w.heap.size)
    (hok : ∀ e q, Y = .ok e q → q ≤ l.length ∧ 4 * (l.length - q) + 1 ≤ f ∧ Z = rLoop l f least d e q) (hbad : ∀ q t, Y = .bad q t → Z = .bad q t) (h : SO W g ta tc en l Y e w1) :
    ∃ x a n c, e = .returned (l2v x (.slice a n c)) ∧ LS w g ta tc en l f least d Z w1.heap.size (w1.alloc (.cells #[.int .i64 x.k, .int .i64 x.n, .string x.t, .slice a n c] 36)) := by
  unfold SO at h
  cases Y with
  | ok E q =>
    obtain ⟨⟨s, h1, h2⟩, h3, h4⟩ := h
    obtain ⟨a, n, c, rfl⟩ := h2.form
    obtain ⟨o1, o2, o3⟩ := hok E q rfl
    have hsz := h4.size
    refine ⟨E.head, a, n, c, h1, (hRW.grown h4 (fun e => by simp at e; omega)).alloc, gr_alloc (gr_trans hGW h4), .inl ⟨f, E, q, E.head, a, n, c, hide o3, o2, Nat.le_refl _, o1, hide rfl, heap_alloc_new w1 _, ?_, h3.alloc⟩⟩
    refine TrP.keep (by simp) (fun k _ h => heap_alloc_old w1 _ h) (TrP.of (fun k h1 h2 => ⟨by omega, by omega⟩) h2)
  | bad q t =>
    obtain ⟨⟨x, a, n, c, h1⟩, ⟨q', h3⟩, h4⟩ := h
    have hsz := h4.size
    exact ⟨x, a, n, c, h1, (hRW.grown h4 (fun e => by simp at e; omega)).alloc, gr_alloc (gr_trans hGW h4), .inr ⟨q, t, q', x, a, n, c, hide (hbad q t rfl), heap_alloc_new w1 _, h3.alloc⟩⟩

set_option maxRecDepth 20000 in
set_option maxHeartbeats 40000000 in
theorem all_of (g : Nat) (ta : Option Addr) (tc en : Nat) (l : List T.Tk) (f d p : Nat) (least : Int) (w : World) (Y Z : Rz) (hl : l.length ≤ 1000) (hleast : 1 ≤ least) (he : EnvS w g ta l) (hb : Bk w g (spC ta l.length tc p en (-1) false) 33)
    (h1 : ∀ w', EnvS w' g ta l → Bk w' g (spC ta l.length tc p en (-1) false) 33 → Calls Tryd.prog 18 #[.pointer (some ⟨g, 0, none⟩), .int .i64 (d : Int)] w' (SO w' g ta tc en l Y))
    (hok : ∀ e q, Y = .ok e q → q ≤ l.length ∧ 4 * (l.length - q) + 1 ≤ f ∧ Z = rLoop l f least d e q) (hbad : ∀ q t, Y = .bad q t → Z = .bad q t)
    (ih : ∀ (f' : Nat) (n : Int) (q : Nat) (w' : World), f' ≤ f → 1 ≤ n → q ≤ l.length → 4 * (l.length - q) + 2 ≤ f' → EnvS w' g ta l → Bk w' g (spC ta l.length tc q en (-1) false) 33 → Calls Tryd.prog 10 #[.pointer (some ⟨g, 0, none⟩), .int .i64 n, .int .i64 (d : Int)] w' (SO w' g ta tc en l (rFrom l f' n d q))) :
    Calls Tryd.prog 10 #[.pointer (some ⟨g, 0, none⟩), .int .i64 least, .int .i64 (d : Int)] w (SO w g ta tc en l Z) := by
  have hgl := hb.lt
  have HE := hide he
  have HB := hide hb
  have HI := hide ih
  have HOK := hide hok
  have HBAD := hide hbad
  have H1 := hide h1
  clear he hb ih hok hbad h1
  go_enter Tryd.func10, Tryd.ntmps10
  go_upto_region 1 with fail
  obtain ⟨W, hW⟩ : ∃ W, W = w.alloc (.cells #[.int .i64 0, .int .i64 0, .string ⟨#[]⟩, .slice none 0 0] 36) := ⟨_, rfl⟩
  have hsW : W.heap.size = w.heap.size + 1 := by rw [hW]; simp
  have HGW : Hid (w.grownBy W (some g)) := hide (by rw [hW]; exact gr_alloc (gr_refl w _))
  have HBW : Hid (Bk W g (spC ta l.length tc p en (-1) false) 33) := hide (by rw [hW]; exact HB.out.alloc)
  have HRW : Hid (Bk W w.heap.size #[.int .i64 0, .int .i64 0, .string ⟨#[]⟩, .slice none 0 0] 36) := hide (by rw [hW]; exact heap_alloc_new w _)
  have HC := hide (H1.out W (HE.out.grown HGW.out) HBW.out)
  rw [← hW]
  clear hW HB HBW H1
  go_wp2_with fail
  refine Calls.mono HC.out ?_
  intro e1 w1 hpo
  obtain ⟨x0, a0, n0, c0, rfl, hls⟩ := LS.start (least := least) hsW HGW.out HRW.out hgl HOK.out HBAD.out hpo
  have HL := hide hls
  obtain ⟨k0, m0, t0⟩ := x0
  unfold l2v
  simp only at HL ⊢
  have hK1 : w.heap.size < w1.heap.size := by
    have := hls.1.lt
    unfold SO at hpo
    have hz : W.heap.size ≤ w1.heap.size := by
      cases Y with
      | ok E q => exact hpo.2.2.size
      | bad q t => exact hpo.2.2.size
    omega
  clear hpo hls HC HOK HBAD HGW HRW hsW
  go_wp2_with fail
  obtain ⟨K, hKe⟩ : ∃ K, K = w1.heap.size := ⟨_, rfl⟩
  rw [← hKe] at HL hK1 ⊢
  obtain ⟨W0, hW0⟩ : ∃ W0, W0 = w1.alloc (.cells #[.int .i64 k0, .int .i64 m0, .string t0, .slice a0 n0 c0] 36) := ⟨_, rfl⟩
  rw [← hW0] at HL ⊢
  clear hW0 hKe
  go_loopw [9] (fun _ w' => LS w g ta tc en l f least d Z K w') (fun _ w' => muS l.length w' g)
  case atStart => exact HL.out
  case round =>
    clear HL
    unfold LS at hrel
    obtain ⟨hres, hgr, hrel⟩ := hrel
    have HRr := hide hres
    have HGr := hide hgr
    clear hres hgr
    rcases hrel with hrel | hrel
    · obtain ⟨f', e, q, x, a, n, c, HZ, g1, g2, g3, HX, hkk, ht, hbk⟩ := hrel
      obtain ⟨xk, xn, xt⟩ := x
      simp only at hkk
      obtain ⟨k, rfl⟩ : ∃ k, f' = k + 1 := ⟨f' - 1, by omega⟩
      have HNr := hide (muS_ok (L := l.length) hbk)
      have C0 := cell_regrown ((hbk.c 0).trans rfl : wr.cell? ⟨g, 0, none⟩ = some (.slice ta l.length tc))
      have C1 := cell_regrown ((hbk.c 1).trans rfl : wr.cell? ⟨g, 1, none⟩ = some (.int .i64 (q : Int)))
      have C3 := cell_regrown ((hbk.c 3).trans rfl : wr.cell? ⟨g, 3, none⟩ = some (.int .i64 (-1)))
      have HBr := hide hbk
      have HKr := hide hkk
      have HTr := hide ht
      have hq0 : (0 : Int) ≤ (q : Int) := by omega
      clear hbk hkk ht
      by_cases hlt : q < l.length
      · have hlt' : (q : Int) < (l.length : Int) := by omega
        obtain ⟨b, o, rfl, hbl, q0, -, q2, -⟩ := (HE.out.grown HGr.out).row.tok (Below.refl _ _) hlt
        have hnb : b ≠ g := HE.out.apart b o rfl
        have hst : stAt l q = if l[q].k = 3 then strN l[q].t else 0 := by unfold stAt; rw [List.getElem?_eq_getElem hlt]
        have htx : txAt l q = l[q].t := by unfold txAt; rw [List.getElem?_eq_getElem hlt]
        obtain ⟨y, hy⟩ : ∃ y, y = l[q] := ⟨_, rfl⟩
        rw [← hy] at q0 q2 hst htx
        obtain ⟨yk, yn, yt, ya⟩ := y
        simp only at q0 q2 hst htx
        have Q0 := cell_regrown q0
        have Q2 := hide q2
        clear hy q0 q2
        by_cases hk3 : yk = 3
        · subst hk3
          rw [if_pos rfl] at hst
          go_wp2_with fail
          refine wp_region_quiet_below (by kernel_rfl) (by kernel_rfl) ?_
          repeat (go_big_quiet_step (fail))
          refine wpQuiet_nil ?_
          intro _ hw'
          obtain ⟨⟨dq, osq⟩, hw''⟩ := hw'
          subst hw''
          obtain ⟨X, hX⟩ : ∃ X, X = Go.Sort.grow (redrawn wr dq) osq := ⟨_, rfl⟩
          have HX0 : Hid (Below wr.heap.size wr X) := hide (by rw [hX]; exact below_regrown wr dq osq)
          try simp only [Go.Regrown.d, Go.Regrown.os] at hX ⊢
          rw [← hX]
          have HGX := hide (gr_trans HGr.out (gr_below (some g) HX0.out))
          have HBX := hide (HBr.out.below HX0.out)
          have HRX := hide (HRr.out.below HX0.out)
          have HKX := hide (HKr.out.below HX0.out)
          have HT := hide (TrP.keep HX0.out.size (fun k _ h => HX0.out.block k h) HTr.out)
          have D0 : X.cell? ⟨g, 0, none⟩ = some (.slice (some ⟨b, o, none⟩) l.length tc) := (HBX.out.c 0).trans rfl
          have D1 : X.cell? ⟨g, 1, none⟩ = some (.int .i64 (q : Int)) := (HBX.out.c 1).trans rfl
          have D2 := (HX0.out.cell (p := ⟨b, o + q * 4 + 2, none⟩) hbl).trans Q2.out
          clear hX HX0 HGr HBr HRr HKr
          clear HTr C0 C1 C3 Q0 Q2
          have HGr := HGX
          have HBr := HBX
          have HRr := HRX
          have HKr := HKX
          clear HGX HBX HRX HKX
          go_upto_region 3 with fail
          go_quiet (fail)
          obtain ⟨V, hV⟩ : ∃ V, V = X.drewN nq := ⟨_, rfl⟩
          have HV : Hid (Below X.heap.size X V) := hide (by rw [hV]; exact belDrewN _)
          rw [← hV]
          have HGV := hide (gr_trans HGr.out (gr_below (some g) HV.out))
          have HBV := hide (HBr.out.below HV.out)
          have HRV := hide (HRr.out.below HV.out)
          have HKV := hide (HKr.out.below HV.out)
          have HTV := hide (TrP.keep HV.out.size (fun k _ h => HV.out.block k h) HT.out)
          clear hV HV HGr HBr HRr HKr HT D0 D1 D2
          have HS := hide (l2Strength_any yt V)
          have s0 := strN_nonneg yt
          have s7 := strN_le' yt
          obtain ⟨S, hS⟩ : ∃ S, S = strN yt := ⟨_, rfl⟩
          rw [← hS] at HS s0 s7 hst
          have HSt := hide hst
          clear hst hS
          by_cases hle : S < least
          · have HZ2 : Hid (Z = .ok e q) := hide (by rw [HZ.out]; exact loop_end (by omega) (by rw [HSt.out]; exact hle))
            clear HZ HI htx HSt
            go_wp2_with fail
            refine Calls.mono HS.out ?_
            rintro e2 w2 ⟨rfl, rfl⟩
            have HGr := HGV
            have HBr := HBV
            have HRr := HRV
            have HKr := HKV
            have HT := HTV
            have rc := HRr.out.c
            have rf := HRr.out.f
            have kc := HKr.out.c
            clear HS HGV HBV HRV HKV HTV
            go_wp2_with fail
            refine bodyPost_ret (v := l2v ⟨xk, xn, xt⟩ (.slice a n c)) (by simp [results, Tryd.results10, go_sem, l2v, *]) rfl (SO.ok' HZ2.out HX.out ?_ ?_ ?_)
            · exact TrP.to (P := Off w.heap.size K) (fun k hk => by unfold Off at hk; omega) (TrP.keep (w := w2) (by rw [set4_size]; exact Nat.le_refl _) (fun k hk _ => set4_heap _ _ _ _ _ _ _ (by unfold Off at hk; omega)) HT.out)
            · exact HBr.out.set4 (by omega)
            · exact gr_set4 HGr.out (Nat.le_refl _)
          · have hS0 : (S == 0) = false := beq_eq_false_iff_ne.2 (by omega)
            have hS1 : ¬ S = 0 := by omega
            go_wp2_with fail
            refine Calls.mono HS.out ?_
            rintro e2 w2 ⟨rfl, rfl⟩
            have c1 : w2.cell? ⟨g, 1, none⟩ = some (.int .i64 (q : Int)) := (HBV.out.c 1).trans rfl
            have fz := HBV.out.f
            clear HS
            go_upto_region 7 with fail
            obtain ⟨U, hU⟩ : ∃ U, U = w2.setCell ⟨g, 1, none⟩ (.int .i64 ((q : Int) + 1)) := ⟨_, rfl⟩
            rw [← hU]
            have HGU : Hid (w.grownBy U (some g)) := hide (by rw [hU]; exact gr_set HGV.out _ _)
            have HBU : Hid (Bk U g (spC (some ⟨b, o, none⟩) l.length tc (q + 1) en (-1) false) 33) := hide (by
              have hz := HBV.out.set 1 (.int .i64 ((q : Int) + 1))
              simp only [spC, List.setIfInBounds_toArray, List.set_cons_zero, List.set_cons_succ] at hz
              rw [hU]; unfold spC; rw [show ((q + 1 : Nat) : Int) = (q : Int) + 1 by omega]; exact hz)
            have HRU : Hid (Bk U w.heap.size #[.int .i64 0, .int .i64 0, .string ⟨#[]⟩, .slice none 0 0] 36) := hide (by rw [hU]; exact HRV.out.other (by omega))
            have HKU : Hid (Bk U K #[.int .i64 xk, .int .i64 xn, .string xt, .slice a n c] 36) := hide (by rw [hU]; exact HKV.out.other (by omega))
            have HTU : Hid (TrP U (Off w.heap.size K) e (.slice a n c)) := hide (by rw [hU]; exact TrP.keep (by simp [World.setCell]) (fun j h1 h2 => Below.heap_setCell _ _ _ _ (show j ≠ g by unfold Off at h1; omega)) HTV.out)
            have hKU : K < U.heap.size := HKU.out.lt
            clear hU c1 fz HGV HBV HRV HKV HTV
            by_cases h7 : S = 7
            · subst h7
              have hnx : nxS 7 = 7 := by unfold nxS; rw [if_pos rfl]
              obtain ⟨Y2, hY2e⟩ : ∃ Y2, Y2 = rFrom l k (7) d (q + 1) := ⟨_, rfl⟩
              have hY2f : rFrom l k (nxS (stAt l q)) d (q + 1) = Y2 := by rw [HSt.out, hnx, hY2e]
              have hY2 := (after_all l k).2.2.2.1 (7) d (q + 1) (by omega) (by omega)
              have HIN := hide (fun (w' : World) (hbw : Below U.heap.size U w') => HI.out k (7) (q + 1) w' (by omega) (by omega) (by omega) (by omega) (HE.out.grown (gr_trans HGU.out (gr_below (some g) hbw))) (HBU.out.below hbw))
              rw [← hY2e] at HIN hY2
              clear hY2e hnx HI
              cases Y2 with
              | bad r t =>
                have HZ2 : Hid (Z = .bad r t) := hide (by rw [HZ.out]; exact loop_bad (by rw [HSt.out]; omega) hY2f)
                obtain ⟨y1, y2⟩ := hY2
                unfold SO at HIN
                simp only at HIN
                clear hY2f HZ HSt
                have HUd : Hid (Below U.heap.size U U.drew) := hide ⟨rfl, rfl, rfl, Nat.le_refl _, fun _ _ => rfl⟩
                have kc := HKU.out.c
                have kf := HKU.out.f
                have kc2 := (HKU.out.below HUd.out).c
                have kf2 := (HKU.out.below HUd.out).f
                clear htx
                go_upto_region 10 with fail
                have HIU := hide (HIN.out _ HUd.out)
                clear HIN
                go_region_with
                  (go_at_call 10; (refine Calls.mono HIU.out ?_); rintro e3 w3 ⟨⟨x2, sa, sn, sc, rfl⟩, ⟨q2, hb3⟩, hg3⟩; obtain ⟨hk, hn, hx⟩ := x2; (first | (unfold l2v) | (trace "FAILS u")); (first | (simp only) | (trace "FAILS s")); (first | (have HG3 : Hid (U.grownBy w3 (some g)) := hide (gr_trans (gr_below (some g) HUd.out) hg3)) | (trace "FAILS 0")); (first | (have HB3 := hide hb3) | (trace "FAILS 1")); (first | (have hK3 : K < w3.heap.size := Nat.lt_of_lt_of_le hKU HG3.out.size) | (trace "FAILS 2")); (first | (have hK3n : ¬ K = w3.heap.size := by omega) | (trace "FAILS 3")); (first | (have kc3 := (HKU.out.grown HG3.out (fun e => by simp at e; omega)).c) | (trace "FAILS 4")); (first | (have kf3 := (HKU.out.grown HG3.out (fun e => by simp at e; omega)).f) | (trace "FAILS 5")); (first | (clear hb3 hg3) | (trace "FAILS 6")))
                all_goals
                  have FR := hide (((HRU.out.grown HG3.out (fun e => by simp at e; omega)).set4 (k := K) (a := .int .i64 5) (b := .int .i64 0) (c := .string yt) (d := .slice (some ⟨w3.heap.size, 0, none⟩) 2 2) (by omega)).alloc (o := .cells #[.int .i64 xk, .int .i64 xn, .string xt, .slice a n c, .int .i64 hk, .int .i64 hn, .string hx, .slice sa sn sc] 36))
                  have FG := hide (gr_alloc (o := .cells #[.int .i64 xk, .int .i64 xn, .string xt, .slice a n c, .int .i64 hk, .int .i64 hn, .string hx, .slice sa sn sc] 36) (gr_set4 (k := K) (a := .int .i64 5) (b := .int .i64 0) (c := .string yt) (d := .slice (some ⟨w3.heap.size, 0, none⟩) 2 2) (gr_trans HGU.out HG3.out) (by omega)))
                  have FK := hide ((Bk.set4_self (.int .i64 5) (.int .i64 0) (.string yt) (.slice (some ⟨w3.heap.size, 0, none⟩) 2 2) (HKU.out.grown HG3.out (fun e => by simp at e; omega))).alloc (o := .cells #[.int .i64 xk, .int .i64 xn, .string xt, .slice a n c, .int .i64 hk, .int .i64 hn, .string hx, .slice sa sn sc] 36))
                  have FB := hide ((HB3.out.set4 (k := K) (a := .int .i64 5) (b := .int .i64 0) (c := .string yt) (d := .slice (some ⟨w3.heap.size, 0, none⟩) 2 2) (by omega)).alloc (o := .cells #[.int .i64 xk, .int .i64 xn, .string xt, .slice a n c, .int .i64 hk, .int .i64 hn, .string hx, .slice sa sn sc] 36))
                  have FM := hide (muS_bad (L := l.length) (plc_pos HE.out.pos) FB.out)
                  clear kc kf kc2 kf2 kc3 kf3 HRU HGU HKU HB3 HG3 HBU HTU HIU HUd
                  go_wp2_with fail
                  refine ⟨⟨FR.out, FG.out, .inr ⟨r, t, q2, ⟨5, 0, yt⟩, some ⟨w3.heap.size, 0, none⟩, 2, 2, HZ2, FK.out, FB.out⟩⟩, ?_⟩
                  have h1 := FM.out
                  have h2 := HNr.out
                  show muS l.length _ g < muS l.length _ g
                  rw [h1, h2]
                  omega
              | ok r2 r =>
                have HZ2 : Hid (Z = rLoop l k least d (.two ⟨5, 0, yt⟩ e r2) r) := hide (by rw [HZ.out, ← htx]; exact loop_ok (by rw [HSt.out]; omega) hY2f)
                obtain ⟨y1, y2, y3⟩ := hY2
                unfold SO at HIN
                simp only at HIN
                clear hY2f HZ HSt
                obtain ⟨H2, hH2⟩ : ∃ H2, H2 = r2.head := ⟨_, rfl⟩
                rw [← hH2] at HIN
                have HH2 := hide hH2
                clear hH2
                obtain ⟨hk, hn, hx⟩ := H2
                unfold l2v at HIN
                simp only at HIN
                have HUd : Hid (Below U.heap.size U U.drew) := hide ⟨rfl, rfl, rfl, Nat.le_refl _, fun _ _ => rfl⟩
                have kc := HKU.out.c
                have kf := HKU.out.f
                have kc2 := (HKU.out.below HUd.out).c
                have kf2 := (HKU.out.below HUd.out).f
                clear htx
                go_upto_region 10 with fail
                have HIU := hide (HIN.out _ HUd.out)
                clear HIN
                go_region_with
                  (go_at_call 10; (refine Calls.mono HIU.out ?_); rintro e3 w3 ⟨⟨s2, rfl, ht2⟩, hb3, hg3⟩; obtain ⟨sa, sn, sc, rfl⟩ := ht2.form; (first | (have HT2 : Hid (TrK w3 U.heap.size r2 (.slice sa sn sc)) := hide ht2; clear ht2) | (trace "FAILS t")); (first | (have HG3 : Hid (U.grownBy w3 (some g)) := hide (gr_trans (gr_below (some g) HUd.out) hg3)) | (trace "FAILS 0")); (first | (have HB3 := hide hb3) | (trace "FAILS 1")); (first | (have hK3 : K < w3.heap.size := Nat.lt_of_lt_of_le hKU HG3.out.size) | (trace "FAILS 2")); (first | (have hK3n : ¬ K = w3.heap.size := by omega) | (trace "FAILS 3")); (first | (have kc3 := (HKU.out.grown HG3.out (fun e => by simp at e; omega)).c) | (trace "FAILS 4")); (first | (have kf3 := (HKU.out.grown HG3.out (fun e => by simp at e; omega)).f) | (trace "FAILS 5")); (first | (clear hb3 hg3) | (trace "FAILS 6")))
                all_goals
                  have FR := hide (((HRU.out.grown HG3.out (fun e => by simp at e; omega)).set4 (k := K) (a := .int .i64 5) (b := .int .i64 0) (c := .string yt) (d := .slice (some ⟨w3.heap.size, 0, none⟩) 2 2) (by omega)).alloc (o := .cells #[.int .i64 xk, .int .i64 xn, .string xt, .slice a n c, .int .i64 hk, .int .i64 hn, .string hx, .slice sa sn sc] 36))
                  have FG := hide (gr_alloc (o := .cells #[.int .i64 xk, .int .i64 xn, .string xt, .slice a n c, .int .i64 hk, .int .i64 hn, .string hx, .slice sa sn sc] 36) (gr_set4 (k := K) (a := .int .i64 5) (b := .int .i64 0) (c := .string yt) (d := .slice (some ⟨w3.heap.size, 0, none⟩) 2 2) (gr_trans HGU.out HG3.out) (by omega)))
                  have FK := hide ((Bk.set4_self (.int .i64 5) (.int .i64 0) (.string yt) (.slice (some ⟨w3.heap.size, 0, none⟩) 2 2) (HKU.out.grown HG3.out (fun e => by simp at e; omega))).alloc (o := .cells #[.int .i64 xk, .int .i64 xn, .string xt, .slice a n c, .int .i64 hk, .int .i64 hn, .string hx, .slice sa sn sc] 36))
                  have FB := hide ((HB3.out.set4 (k := K) (a := .int .i64 5) (b := .int .i64 0) (c := .string yt) (d := .slice (some ⟨w3.heap.size, 0, none⟩) 2 2) (by omega)).alloc (o := .cells #[.int .i64 xk, .int .i64 xn, .string xt, .slice a n c, .int .i64 hk, .int .i64 hn, .string hx, .slice sa sn sc] 36))
                  have FT := hide (tree_two (a := .int .i64 5) (b := .int .i64 0) (c := .string yt) (d := .slice (some ⟨w3.heap.size, 0, none⟩) 2 2) ⟨5, 0, yt⟩ (TrP.keep HG3.out.size (fun j h1 h2 => HG3.out.block j h2 (fun e => by simp at e; unfold Off at h1; omega)) HTU.out) HT2.out hKU hK1 hK3)
                  rw [← HX.out, ← HH2.out] at FT
                  have FM := hide (muS_ok (L := l.length) FB.out)
                  clear kc kf kc2 kf2 kc3 kf3 HRU HGU HKU HB3 HG3 HBU HTU HIU HUd
                  go_wp2_with fail
                  refine ⟨⟨FR.out, FG.out, .inl ⟨k, .two ⟨5, 0, yt⟩ e r2, r, ⟨5, 0, yt⟩, some ⟨w3.heap.size, 0, none⟩, 2, 2, HZ2, by omega, by omega, by omega, hide rfl, FK.out, FT.out, FB.out⟩⟩, ?_⟩
                  have h1 := FM.out
                  have h2 := HNr.out
                  show muS l.length _ g < muS l.length _ g
                  rw [h1, h2]
                  omega
            · have hnx : nxS S = S + 1 := by unfold nxS; rw [if_neg h7]
              have h7b : (S == 7) = false := beq_eq_false_iff_ne.2 h7
              obtain ⟨Y2, hY2e⟩ : ∃ Y2, Y2 = rFrom l k (S + 1) d (q + 1) := ⟨_, rfl⟩
              have hY2f : rFrom l k (nxS (stAt l q)) d (q + 1) = Y2 := by rw [HSt.out, hnx, hY2e]
              have hY2 := (after_all l k).2.2.2.1 (S + 1) d (q + 1) (by omega) (by omega)
              have HIN := hide (fun (w' : World) (hbw : Below U.heap.size U w') => HI.out k (S + 1) (q + 1) w' (by omega) (by omega) (by omega) (by omega) (HE.out.grown (gr_trans HGU.out (gr_below (some g) hbw))) (HBU.out.below hbw))
              rw [← hY2e] at HIN hY2
              clear hY2e hnx HI
              cases Y2 with
              | bad r t =>
                have HZ2 : Hid (Z = .bad r t) := hide (by rw [HZ.out]; exact loop_bad (by rw [HSt.out]; omega) hY2f)
                obtain ⟨y1, y2⟩ := hY2
                unfold SO at HIN
                simp only at HIN
                clear hY2f HZ HSt
                have HUd : Hid (Below U.heap.size U U.drew) := hide ⟨rfl, rfl, rfl, Nat.le_refl _, fun _ _ => rfl⟩
                have kc := HKU.out.c
                have kf := HKU.out.f
                have kc2 := (HKU.out.below HUd.out).c
                have kf2 := (HKU.out.below HUd.out).f
                clear htx
                go_upto_region 10 with fail
                have HIU := hide (HIN.out _ HUd.out)
                clear HIN
                go_region_with
                  (go_at_call 10; (refine Calls.mono HIU.out ?_); rintro e3 w3 ⟨⟨x2, sa, sn, sc, rfl⟩, ⟨q2, hb3⟩, hg3⟩; obtain ⟨hk, hn, hx⟩ := x2; (first | (unfold l2v) | (trace "FAILS u")); (first | (simp only) | (trace "FAILS s")); (first | (have HG3 : Hid (U.grownBy w3 (some g)) := hide (gr_trans (gr_below (some g) HUd.out) hg3)) | (trace "FAILS 0")); (first | (have HB3 := hide hb3) | (trace "FAILS 1")); (first | (have hK3 : K < w3.heap.size := Nat.lt_of_lt_of_le hKU HG3.out.size) | (trace "FAILS 2")); (first | (have hK3n : ¬ K = w3.heap.size := by omega) | (trace "FAILS 3")); (first | (have kc3 := (HKU.out.grown HG3.out (fun e => by simp at e; omega)).c) | (trace "FAILS 4")); (first | (have kf3 := (HKU.out.grown HG3.out (fun e => by simp at e; omega)).f) | (trace "FAILS 5")); (first | (clear hb3 hg3) | (trace "FAILS 6")))
                all_goals
                  have FR := hide (((HRU.out.grown HG3.out (fun e => by simp at e; omega)).set4 (k := K) (a := .int .i64 5) (b := .int .i64 0) (c := .string yt) (d := .slice (some ⟨w3.heap.size, 0, none⟩) 2 2) (by omega)).alloc (o := .cells #[.int .i64 xk, .int .i64 xn, .string xt, .slice a n c, .int .i64 hk, .int .i64 hn, .string hx, .slice sa sn sc] 36))
                  have FG := hide (gr_alloc (o := .cells #[.int .i64 xk, .int .i64 xn, .string xt, .slice a n c, .int .i64 hk, .int .i64 hn, .string hx, .slice sa sn sc] 36) (gr_set4 (k := K) (a := .int .i64 5) (b := .int .i64 0) (c := .string yt) (d := .slice (some ⟨w3.heap.size, 0, none⟩) 2 2) (gr_trans HGU.out HG3.out) (by omega)))
                  have FK := hide ((Bk.set4_self (.int .i64 5) (.int .i64 0) (.string yt) (.slice (some ⟨w3.heap.size, 0, none⟩) 2 2) (HKU.out.grown HG3.out (fun e => by simp at e; omega))).alloc (o := .cells #[.int .i64 xk, .int .i64 xn, .string xt, .slice a n c, .int .i64 hk, .int .i64 hn, .string hx, .slice sa sn sc] 36))
                  have FB := hide ((HB3.out.set4 (k := K) (a := .int .i64 5) (b := .int .i64 0) (c := .string yt) (d := .slice (some ⟨w3.heap.size, 0, none⟩) 2 2) (by omega)).alloc (o := .cells #[.int .i64 xk, .int .i64 xn, .string xt, .slice a n c, .int .i64 hk, .int .i64 hn, .string hx, .slice sa sn sc] 36))
                  have FM := hide (muS_bad (L := l.length) (plc_pos HE.out.pos) FB.out)
                  clear kc kf kc2 kf2 kc3 kf3 HRU HGU HKU HB3 HG3 HBU HTU HIU HUd
                  go_wp2_with fail
                  refine ⟨⟨FR.out, FG.out, .inr ⟨r, t, q2, ⟨5, 0, yt⟩, some ⟨w3.heap.size, 0, none⟩, 2, 2, HZ2, FK.out, FB.out⟩⟩, ?_⟩
                  have h1 := FM.out
                  have h2 := HNr.out
                  show muS l.length _ g < muS l.length _ g
                  rw [h1, h2]
                  omega
              | ok r2 r =>
                have HZ2 : Hid (Z = rLoop l k least d (.two ⟨5, 0, yt⟩ e r2) r) := hide (by rw [HZ.out, ← htx]; exact loop_ok (by rw [HSt.out]; omega) hY2f)
                obtain ⟨y1, y2, y3⟩ := hY2
                unfold SO at HIN
                simp only at HIN
                clear hY2f HZ HSt
                obtain ⟨H2, hH2⟩ : ∃ H2, H2 = r2.head := ⟨_, rfl⟩
                rw [← hH2] at HIN
                have HH2 := hide hH2
                clear hH2
                obtain ⟨hk, hn, hx⟩ := H2
                unfold l2v at HIN
                simp only at HIN
                have HUd : Hid (Below U.heap.size U U.drew) := hide ⟨rfl, rfl, rfl, Nat.le_refl _, fun _ _ => rfl⟩
                have kc := HKU.out.c
                have kf := HKU.out.f
                have kc2 := (HKU.out.below HUd.out).c
                have kf2 := (HKU.out.below HUd.out).f
                clear htx
                go_upto_region 10 with fail
                have HIU := hide (HIN.out _ HUd.out)
                clear HIN
                go_region_with
                  (go_at_call 10; (refine Calls.mono HIU.out ?_); rintro e3 w3 ⟨⟨s2, rfl, ht2⟩, hb3, hg3⟩; obtain ⟨sa, sn, sc, rfl⟩ := ht2.form; (first | (have HT2 : Hid (TrK w3 U.heap.size r2 (.slice sa sn sc)) := hide ht2; clear ht2) | (trace "FAILS t")); (first | (have HG3 : Hid (U.grownBy w3 (some g)) := hide (gr_trans (gr_below (some g) HUd.out) hg3)) | (trace "FAILS 0")); (first | (have HB3 := hide hb3) | (trace "FAILS 1")); (first | (have hK3 : K < w3.heap.size := Nat.lt_of_lt_of_le hKU HG3.out.size) | (trace "FAILS 2")); (first | (have hK3n : ¬ K = w3.heap.size := by omega) | (trace "FAILS 3")); (first | (have kc3 := (HKU.out.grown HG3.out (fun e => by simp at e; omega)).c) | (trace "FAILS 4")); (first | (have kf3 := (HKU.out.grown HG3.out (fun e => by simp at e; omega)).f) | (trace "FAILS 5")); (first | (clear hb3 hg3) | (trace "FAILS 6")))
                all_goals
                  have FR := hide (((HRU.out.grown HG3.out (fun e => by simp at e; omega)).set4 (k := K) (a := .int .i64 5) (b := .int .i64 0) (c := .string yt) (d := .slice (some ⟨w3.heap.size, 0, none⟩) 2 2) (by omega)).alloc (o := .cells #[.int .i64 xk, .int .i64 xn, .string xt, .slice a n c, .int .i64 hk, .int .i64 hn, .string hx, .slice sa sn sc] 36))
                  have FG := hide (gr_alloc (o := .cells #[.int .i64 xk, .int .i64 xn, .string xt, .slice a n c, .int .i64 hk, .int .i64 hn, .string hx, .slice sa sn sc] 36) (gr_set4 (k := K) (a := .int .i64 5) (b := .int .i64 0) (c := .string yt) (d := .slice (some ⟨w3.heap.size, 0, none⟩) 2 2) (gr_trans HGU.out HG3.out) (by omega)))
                  have FK := hide ((Bk.set4_self (.int .i64 5) (.int .i64 0) (.string yt) (.slice (some ⟨w3.heap.size, 0, none⟩) 2 2) (HKU.out.grown HG3.out (fun e => by simp at e; omega))).alloc (o := .cells #[.int .i64 xk, .int .i64 xn, .string xt, .slice a n c, .int .i64 hk, .int .i64 hn, .string hx, .slice sa sn sc] 36))
                  have FB := hide ((HB3.out.set4 (k := K) (a := .int .i64 5) (b := .int .i64 0) (c := .string yt) (d := .slice (some ⟨w3.heap.size, 0, none⟩) 2 2) (by omega)).alloc (o := .cells #[.int .i64 xk, .int .i64 xn, .string xt, .slice a n c, .int .i64 hk, .int .i64 hn, .string hx, .slice sa sn sc] 36))
                  have FT := hide (tree_two (a := .int .i64 5) (b := .int .i64 0) (c := .string yt) (d := .slice (some ⟨w3.heap.size, 0, none⟩) 2 2) ⟨5, 0, yt⟩ (TrP.keep HG3.out.size (fun j h1 h2 => HG3.out.block j h2 (fun e => by simp at e; unfold Off at h1; omega)) HTU.out) HT2.out hKU hK1 hK3)
                  rw [← HX.out, ← HH2.out] at FT
                  have FM := hide (muS_ok (L := l.length) FB.out)
                  clear kc kf kc2 kf2 kc3 kf3 HRU HGU HKU HB3 HG3 HBU HTU HIU HUd
                  go_wp2_with fail
                  refine ⟨⟨FR.out, FG.out, .inl ⟨k, .two ⟨5, 0, yt⟩ e r2, r, ⟨5, 0, yt⟩, some ⟨w3.heap.size, 0, none⟩, 2, 2, HZ2, by omega, by omega, by omega, hide rfl, FK.out, FT.out, FB.out⟩⟩, ?_⟩
                  have h1 := FM.out
                  have h2 := HNr.out
                  show muS l.length _ g < muS l.length _ g
                  rw [h1, h2]
                  omega
        · have hbq : (yk == 3) = false := by simpa using hk3
          rw [if_neg hk3] at hst
          have HZ2 : Hid (Z = .ok e q) := hide (by rw [HZ.out]; exact loop_end (by omega) (by rw [hst]; omega))
          clear HZ HI hst htx Q2
          go_wp2_with fail
          refine wp_region_quiet_below (by kernel_rfl) (by kernel_rfl) ?_
          repeat (go_big_quiet_step (fail))
          refine wpQuiet_nil ?_
          intro _ hw'
          obtain ⟨⟨dq, osq⟩, hw''⟩ := hw'
          subst hw''
          obtain ⟨X, hX⟩ : ∃ X, X = Go.Sort.grow (redrawn wr dq) osq := ⟨_, rfl⟩
          have HX0 : Hid (Below wr.heap.size wr X) := hide (by rw [hX]; exact below_regrown wr dq osq)
          try simp only [Go.Regrown.d, Go.Regrown.os] at hX ⊢
          rw [← hX]
          have HGX := hide (gr_trans HGr.out (gr_below (some g) HX0.out))
          have HBX := hide (HBr.out.below HX0.out)
          have HRX := hide (HRr.out.below HX0.out)
          have HKX := hide (HKr.out.below HX0.out)
          have HT := hide (TrP.keep HX0.out.size (fun k _ h => HX0.out.block k h) HTr.out)
          clear hX HX0 HGr HBr HRr HKr
          clear HTr C0 C1 C3 Q0
          have HGr := HGX
          have HBr := HBX
          have HRr := HRX
          have HKr := HKX
          clear HGX HBX HRX HKX
          have rc := HRr.out.c
          have rf := HRr.out.f
          have kc := HKr.out.c
          go_wp2_with fail
          refine bodyPost_ret (v := l2v ⟨xk, xn, xt⟩ (.slice a n c)) (by simp [results, Tryd.results10, go_sem, l2v, *]) rfl (SO.ok' HZ2.out HX.out ?_ ?_ ?_)
          · exact TrP.to (P := Off w.heap.size K) (fun k hk => by unfold Off at hk; omega) (TrP.keep (w := X) (by rw [set4_size]; exact Nat.le_refl _) (fun k hk _ => set4_heap _ _ _ _ _ _ _ (by unfold Off at hk; omega)) HT.out)
          · exact HBr.out.set4 (by omega)
          · exact gr_set4 HGr.out (Nat.le_refl _)
      · have hlt' : ¬ (q : Int) < (l.length : Int) := by omega
        have HZ2 : Hid (Z = .ok e q) := hide (by rw [HZ.out]; exact loop_end (by omega) (by unfold stAt; rw [List.getElem?_eq_none (by omega)]; simp only; omega))
        clear HZ HI
        go_wp2_with fail
        refine wp_region_quiet_below (by kernel_rfl) (by kernel_rfl) ?_
        repeat (go_big_quiet_step (fail))
        refine wpQuiet_nil ?_
        intro _ hw'
        obtain ⟨⟨dq, osq⟩, hw''⟩ := hw'
        subst hw''
        obtain ⟨X, hX⟩ : ∃ X, X = Go.Sort.grow (redrawn wr dq) osq := ⟨_, rfl⟩
        have HX0 : Hid (Below wr.heap.size wr X) := hide (by rw [hX]; exact below_regrown wr dq osq)
        try simp only [Go.Regrown.d, Go.Regrown.os] at hX ⊢
        rw [← hX]
        have HGX := hide (gr_trans HGr.out (gr_below (some g) HX0.out))
        have HBX := hide (HBr.out.below HX0.out)
        have HRX := hide (HRr.out.below HX0.out)
        have HKX := hide (HKr.out.below HX0.out)
        have HT := hide (TrP.keep HX0.out.size (fun k _ h => HX0.out.block k h) HTr.out)
        clear hX HX0 HGr HBr HRr HKr
        clear HTr C0 C1 C3
        have HGr := HGX
        have HBr := HBX
        have HRr := HRX
        have HKr := HKX
        clear HGX HBX HRX HKX
        have rc := HRr.out.c
        have rf := HRr.out.f
        have kc := HKr.out.c
        go_wp2_with fail
        refine bodyPost_ret (v := l2v ⟨xk, xn, xt⟩ (.slice a n c)) (by simp [results, Tryd.results10, go_sem, l2v, *]) rfl (SO.ok' HZ2.out HX.out ?_ ?_ ?_)
        · exact TrP.to (P := Off w.heap.size K) (fun k hk => by unfold Off at hk; omega) (TrP.keep (w := X) (by rw [set4_size]; exact Nat.le_refl _) (fun k hk _ => set4_heap _ _ _ _ _ _ _ (by unfold Off at hk; omega)) HT.out)
        · exact HBr.out.set4 (by omega)
        · exact gr_set4 HGr.out (Nat.le_refl _)
    · obtain ⟨q, t, q', x, a, n, c, HZ, hkk, hbk⟩ := hrel
      obtain ⟨xk, xn, xt⟩ := x
      simp only at hkk
      have hB := plc_pos (en := en) (p := q) HE.out.pos
      have C0 := cell_regrown ((hbk.c 0).trans rfl : wr.cell? ⟨g, 0, none⟩ = some (.slice ta l.length tc))
      have C1 := cell_regrown ((hbk.c 1).trans rfl : wr.cell? ⟨g, 1, none⟩ = some (.int .i64 (q' : Int)))
      have C3 := cell_regrown ((hbk.c 3).trans rfl : wr.cell? ⟨g, 3, none⟩ = some (.int .i64 (plc l en q)))
      have HBr := hide hbk
      have HKr := hide hkk
      have hB1 : ¬ plc l en q < 0 := by omega
      have hB2 : decide (plc l en q < 0) = false := decide_eq_false hB1
      clear hbk hkk HI
      go_wp2_with fail
      refine wp_region_quiet_below (by kernel_rfl) (by kernel_rfl) ?_
      repeat (go_big_quiet_step (fail))
      refine wpQuiet_nil ?_
      intro _ hw'
      obtain ⟨⟨dq, osq⟩, hw''⟩ := hw'
      subst hw''
      obtain ⟨X, hX⟩ : ∃ X, X = Go.Sort.grow (redrawn wr dq) osq := ⟨_, rfl⟩
      have HX0 : Hid (Below wr.heap.size wr X) := hide (by rw [hX]; exact below_regrown wr dq osq)
      try simp only [Go.Regrown.d, Go.Regrown.os] at hX ⊢
      rw [← hX]
      have HGX := hide (gr_trans HGr.out (gr_below (some g) HX0.out))
      have HBX := hide (HBr.out.below HX0.out)
      have HRX := hide (HRr.out.below HX0.out)
      have HKX := hide (HKr.out.below HX0.out)
      clear hX HX0 HGr HBr HRr HKr
      clear C0 C1 C3
      have HGr := HGX
      have HBr := HBX
      have HRr := HRX
      have HKr := HKX
      clear HGX HBX HRX HKX
      have rc := HRr.out.c
      have rf := HRr.out.f
      have kc := HKr.out.c
      go_wp2_with fail
      refine bodyPost_ret (v := l2v ⟨xk, xn, xt⟩ (.slice a n c)) (by simp [results, Tryd.results10, go_sem, l2v, *]) rfl (SO.bad' (q' := q') HZ.out ?_ ?_)
      · exact HBr.out.set4 (by omega)
      · exact gr_set4 HGr.out (Nat.le_refl _)
end Go.Proofs.YtmnicilgenpnfaaDoor.W

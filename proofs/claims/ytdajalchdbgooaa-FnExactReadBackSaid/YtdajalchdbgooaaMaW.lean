/-
  The specification's code of a closed term: contracts of l6Walk and l6Of. Conditions: at most 600 cells (a good term).
-/
import Derived.Test.YtdajalchdbgooaaJ05
import Derived.Test.YtdajalchdbgooaaJ01
import Derived.Deep.AppendLies
import Derived.Deep.RegionLaw
import Derived.Deep.CutRange
namespace Go.Proofs.Ytdajalchdbgooaa.W
open Go.ChangeShapes Go.WideShapes Go.ChangeAt Go.RowKit
set_option linter.unusedVariables false

def stp {α : Type} (V : Nat → α) (p : Nat) (x : α) : Nat → α := fun i => if i = p then x else V i
theorem stp_self {α : Type} (V : Nat → α) (p : Nat) (x : α) : stp V p x p = x := if_pos rfl
theorem stp_ne {α : Type} (V : Nat → α) (p : Nat) (x : α) (i : Nat) (h : i ≠ p) : stp V p x i = V i := if_neg h
def upd {α : Type} (T V : Nat → α) (a b : Nat) : Nat → α := fun i => if a ≤ i ∧ i < b then T i else V i
theorem upd_upd {α : Type} (T V : Nat → α) (a b c : Nat) (h1 : a ≤ b) (h2 : b ≤ c) : upd T (upd T V a b) b c = upd T V a c := by
  funext i
  unfold upd
  by_cases hb : b ≤ i ∧ i < c
  · rw [if_pos hb, if_pos (by omega)]
  · rw [if_neg hb]
    by_cases ha : a ≤ i ∧ i < b
    · rw [if_pos ha, if_pos (by omega)]
    · rw [if_neg ha, if_neg (by omega)]
/-- How many are bound around each place, and where its kids stand. -/
def tV (N : List (Cc × Nat × F)) (i : Nat) : Int := match N[i]? with | some (_, e, _) => (e : Int) | none => 0
def tK (N : List (Cc × Nat × F)) (i : Nat) : List Int := match N[i]? with | some (_, _, k) => kidsAt i k | none => []

/-- The blocks of a code that is being made. -/
def WS (w : World) (cb kb vb base n : Nat) (tv : Value) (V : Nat → Int) (K : Nat → List Int) : Prop :=
  Bx w cb #[tv, .slice (some ⟨kb, 0, none⟩) n n, .slice (some ⟨vb, 0, none⟩) n n] 116 ∧
  (∃ vc, w.heap[vb]? = some (.cells vc 3 (0, 0)) ∧ vc.size = n ∧ ∀ i, i < n → vc[i]? = some (.int .i64 (V i))) ∧
  (∃ kc, w.heap[kb]? = some (.cells kc 90 (0, 0)) ∧ kc.size = n ∧ (∀ i, i < n → ∃ s, kc[i]? = some s ∧ w.ownsRow base 3 1 s (K i).length ((K i).map (Value.int .i64))) ∧ (∀ (i j : Nat) (s s' : Value) (g : Nat), kc[i]? = some s → kc[j]? = some s' → i ≠ j → s.ownBlock = some g → s'.ownBlock ≠ some g)) ∧
  cb < base ∧ kb < base ∧ vb < base ∧ cb ≠ kb ∧ cb ≠ vb ∧ kb ≠ vb ∧ base ≤ w.heap.size
theorem WS.var {w : World} {cb kb vb base n : Nat} {tv : Value} {V : Nat → Int} {K : Nat → List Int} (h : WS w cb kb vb base n tv V K) (p : Nat) (hp : p < n) (x : Int) : WS (w.setCell ⟨vb, p, none⟩ (.int .i64 x)) cb kb vb base n tv (stp V p x) K := by
  obtain ⟨h1, ⟨vc, h2, h3, h4⟩, ⟨kc, h5, h6, h7, h8⟩, b1, b2, b3, d1, d2, d3, hs⟩ := h
  refine ⟨h1.setne _ _ _ d2, ⟨_, blk_setCell h2 _, by simpa using h3, fun i hi => ?_⟩, ⟨kc, (Below.heap_setCell _ _ _ _ d3).trans h5, h6, fun i hi => ?_, h8⟩, b1, b2, b3, d1, d2, d3, by simpa [World.setCell] using hs⟩
  · rw [Array.getElem?_setIfInBounds]
    by_cases e : p = i
    · subst e; rw [if_pos rfl, if_pos (by omega), stp_self]
    · rw [if_neg e, stp_ne _ _ _ _ (Ne.symm e)]; exact h4 i hi
  · obtain ⟨s, e1, e2⟩ := h7 i hi
    exact ⟨s, e1, own_keep e2 (fun k hk hlt => Below.heap_setCell _ _ _ _ (by show k ≠ vb; omega))⟩
theorem WS.row {w : World} {cb kb vb base n : Nat} {tv : Value} {V : Nat → Int} {K : Nat → List Int} (h : WS w cb kb vb base n tv V K) (p : Nat) (hp : p < n) :
    ∃ s, w.cell? ⟨kb, p, none⟩ = some s ∧ w.ownsRow base 3 1 s (K p).length ((K p).map (Value.int .i64)) ∧
      ∀ (s6 : Value) (w6 : World) (x : Int), w6.ownsRow base 3 1 s6 ((K p).length + 1) ((K p).map (Value.int .i64) ++ [.int .i64 x]) → (∀ b, b < w.heap.size → some b ≠ s.ownBlock → w6.heap[b]? = w.heap[b]?) → w.heap.size ≤ w6.heap.size → (∀ g, s6.ownBlock = some g → s.ownBlock = some g ∨ w.heap.size ≤ g) →
        WS (w6.setCell ⟨kb, p, none⟩ s6) cb kb vb base n tv V (stp K p (K p ++ [x])) := by
  obtain ⟨h1, ⟨vc, h2, h3, h4⟩, ⟨kc, h5, h6, h7, h8⟩, b1, b2, b3, d1, d2, d3, hs⟩ := h
  obtain ⟨s, e1, e2⟩ := h7 p hp
  refine ⟨s, (cell_of_blk h5 p).trans e1, e2, ?_⟩
  intro s6 w6 x ho hk hsz hat
  have hn : ∀ b, b < base → some b ≠ s.ownBlock := fun b hb e => by have := (e2.lt b e.symm).1; omega
  have old : ∀ b, b < base → w6.heap[b]? = w.heap[b]? := fun b hb => hk b (by omega) (hn b hb)
  refine ⟨Bx.setne ((old cb b1).trans h1) _ _ _ d1, ⟨vc, (Below.heap_setCell _ _ _ _ (Ne.symm d3)).trans ((old vb b3).trans h2), h3, h4⟩, ⟨_, blk_setCell ((old kb b2).trans h5) _, by simpa using h6, fun i hi => ?_, ?_⟩, b1, b2, b3, d1, d2, d3, by simp [World.setCell]; omega⟩
  · rw [Array.getElem?_setIfInBounds]
    by_cases e : p = i
    · subst e
      rw [if_pos rfl, if_pos (by omega)]
      refine ⟨s6, rfl, ?_⟩
      rw [stp_self]
      have := own_keep (w' := w6.setCell ⟨kb, p, none⟩ s6) ho (fun k hk hlt => Below.heap_setCell _ _ _ _ (by show k ≠ kb; omega))
      simpa using this
    · rw [if_neg e, stp_ne _ _ _ _ (Ne.symm e)]
      obtain ⟨s', f1, f2⟩ := h7 i hi
      refine ⟨s', f1, own_same f2 (fun k hkb hb hlt => ?_)⟩
      rw [Below.heap_setCell _ _ _ _ (show k ≠ kb by omega)]
      exact hk k hlt (fun e' => h8 p i s s' k e1 f1 e e'.symm hkb)
  · intro i j s1 s2 g hi hj hij hg1
    rw [Array.getElem?_setIfInBounds] at hi hj
    by_cases ei : p = i
    · subst ei
      rw [if_pos rfl, if_pos (by omega)] at hi
      rw [if_neg hij] at hj
      obtain rfl : s6 = s1 := by simpa using hi
      intro hg2
      rcases hat g hg1 with h | h
      · exact h8 p j s s2 g e1 hj hij h hg2
      · have hj' : j < n := by have := (Array.getElem?_eq_some_iff.1 hj).1; omega
        obtain ⟨s', f1, f2⟩ := h7 j hj'
        rw [hj] at f1
        obtain rfl : s2 = s' := by simpa using f1
        have := (f2.lt g hg2).2
        omega
    · rw [if_neg ei] at hi
      by_cases ej : p = j
      · subst ej
        rw [if_pos rfl, if_pos (by omega)] at hj
        obtain rfl : s6 = s2 := by simpa using hj
        intro hg2
        rcases hat g hg2 with h | h
        · exact h8 i p s1 s g hi e1 hij hg1 h
        · have hi' : i < n := by have := (Array.getElem?_eq_some_iff.1 hi).1; omega
          obtain ⟨s', f1, f2⟩ := h7 i hi'
          rw [hi] at f1
          obtain rfl : s1 = s' := by simpa using f1
          have := (f2.lt g hg1).2
          omega
      · rw [if_neg ej] at hj
        exact h8 i j s1 s2 g hi hj hij hg1

theorem newsJ {W : World} {g : Nat} {n : Int} (h : W.heap[g]? = some (.cells #[.int .i64 n] 3 (0, 0))) : ∀ j u, [Value.int .i64 n][j]? = some u → W.cell? ((⟨g, 0, none⟩ : Addr).add j) = some u := fun j u hu => by
  rw [iAdd, Nat.zero_add, cell_of_blk h, ← hu]; simp
theorem stp_stp {α : Type} (V : Nat → α) (p : Nat) (x y : α) : stp (stp V p x) p y = stp V p y := by
  funext i
  unfold stp
  by_cases h : i = p
  · rw [if_pos h, if_pos h]
  · rw [if_neg h, if_neg h, if_neg h]
theorem kids_take {p j : Nat} {k : F} (h : j < k.len) : (kidsAt p k).take (j + 1) = (kidsAt p k).take j ++ [((p + 1 + ko k j : Nat) : Int)] := by
  rw [List.take_succ_eq_append_getElem (by simpa [kidsAt] using h)]
  simp [kidsAt]
theorem Cl.kid' {l : List Cc} {a : F} (h : Cl l a) {p : Nat} {x : Cc} {e : Nat} {k : F} (hn : (ndT a)[p]? = some (x, e, k)) {j : Nat} {y : Cc} {m : F} (hy : kth k j = some (y, m)) : (ndT a)[p + 1 + ko k j]? = some (y, e + binds x.k j, m) := nd_kid a 0 0 0 p x e k j y m hn hy
/-- What the walk wants of a code. -/
structure WC (w : World) (cb kb vb n : Nat) (tv : Value) : Prop where
  c0 : w.cell? ⟨cb, 0, none⟩ = some tv
  c1 : w.cell? ⟨cb, 1, none⟩ = some (.slice (some ⟨kb, 0, none⟩) n n)
  c2 : w.cell? ⟨cb, 2, none⟩ = some (.slice (some ⟨vb, 0, none⟩) n n)
theorem WS.wc {w : World} {cb kb vb base n : Nat} {tv : Value} {V : Nat → Int} {K : Nat → List Int} (h : WS w cb kb vb base n tv V K) : WC w cb kb vb n tv := ⟨h.1.c 0, h.1.c 1, h.1.c 2⟩

def LWGoal (w0 : World) (ad : Option Addr) (c : Nat) (l : List Cc) (a : F) (cb kb vb base f : Nat) : Prop :=
  ∀ (p e : Nat) (x : Cc) (k : F) (w : World) (V : Nat → Int) (K : Nat → List Int), (ndT a)[p]? = some (x, e, k) → k.flat.length ≤ f → WS w cb kb vb base l.length (.slice ad l.length c) V K → Below w0.heap.size w0 w → (∀ i, p ≤ i → i < p + 1 + k.flat.length → K i = []) →
    Calls Try.prog 66 #[.pointer (some ⟨cb, 0, none⟩), .int .i64 (p : Int), .int .i64 (e : Int)] w fun en w' => en = .returned (.int .i64 ((p + 1 + k.flat.length : Nat) : Int)) ∧ WS w' cb kb vb base l.length (.slice ad l.length c) (upd (tV (ndT a)) V p (p + 1 + k.flat.length)) (upd (tK (ndT a)) K p (p + 1 + k.flat.length)) ∧ Below w0.heap.size w0 w'

set_option maxRecDepth 20000 in
set_option maxHeartbeats 2000000 in
theorem l6Walk_step (w0 : World) (ad : Option Addr) (c : Nat) (l : List Cc) (a : F) (cb kb vb base f : Nat) (hCl : Cl l a) (hR : CRow w0 ad l) (g1 : w0.heap.size ≤ cb) (g2 : w0.heap.size ≤ kb) (g3 : w0.heap.size ≤ vb)
    (ih : ∀ f', f' < f → LWGoal w0 ad c l a cb kb vb base f') : LWGoal w0 ad c l a cb kb vb base f := by
  intro p e x k w V K hn hf hW hB hK
  have hle := hCl.le
  obtain ⟨hp, hpx⟩ := hCl.cell hn
  obtain ⟨gx, gl, go, ge⟩ := hCl.good hn
  obtain ⟨hz, -, -⟩ := hCl.size hn
  have hkl := F.len_flat k
  have HW := hide hW
  have HK := hide hK
  have HR := hide hR
  have HN := hide hn
  have IH := hide ih
  obtain ⟨c0, c1, c2⟩ := hW.wc
  have fz : w.frozen? ⟨vb, p, none⟩ = false := by obtain ⟨-, ⟨vc, h2, -⟩, -⟩ := hW; exact unfrozen_of_blk h2 p
  have y0 : ∃ y, w.cell? ⟨vb, p, none⟩ = some y := by obtain ⟨-, ⟨vc, h2, h3, h4⟩, -⟩ := hW; exact ⟨_, (cell_of_blk h2 p).trans (h4 p hp)⟩
  obtain ⟨y0, hy0⟩ := y0
  clear hW hK hR hn ih
  have hp' : (p : Int) < (l.length : Int) := by omega
  have hp0 : (0 : Int) ≤ (p : Int) := by omega
  go_enter Try.func66, Try.ntmps66
  go_wp2_with fail
  have HW1 := hide (HW.out.var p hp (e : Int))
  have hB1 : Below w0.heap.size w0 (w.setCell ⟨vb, p, none⟩ (.int .i64 (e : Int))) := hB.setCell (p := ⟨vb, p, none⟩) (by show _ ≤ vb; omega) _
  have HV1 : Hid (stp V p (e : Int) = upd (tV (ndT a)) V p (p + 1)) := hide (by
    funext i
    unfold stp upd
    by_cases hi : i = p
    · subst hi; rw [if_pos rfl, if_pos (by omega)]; unfold tV; rw [HN.out]
    · rw [if_neg hi, if_neg (by omega)])
  rw [HV1.out] at HW1
  obtain ⟨w1, hw1⟩ : ∃ w1, w1 = w.setCell ⟨vb, p, none⟩ (.int .i64 (e : Int)) := ⟨_, rfl⟩
  rw [← hw1] at HW1 hB1 ⊢
  have hBsz := hB1.size
  clear hw1 c0 c1 c2 fz hy0 y0 HW HV1 hB
  have HKP : Hid (K p = []) := hide (HK.out p (by omega) (by omega))
  go_loopw [7, 8] (fun en kk w' => ∃ j : Nat, j ≤ k.len ∧ kk = .int .i64 (j : Int) ∧ en = .int .i64 ((p + 1 + ko k j : Nat) : Int) ∧ WS w' cb kb vb base l.length (.slice ad l.length c) (upd (tV (ndT a)) V p (p + 1 + ko k j)) (stp (upd (tK (ndT a)) K (p + 1) (p + 1 + ko k j)) p ((kidsAt p k).take j)) ∧ Below w0.heap.size w0 w') (fun _ kk _ => k.len - (intOf kk).toNat)
  case atStart =>
    refine ⟨0, by omega, rfl, by rw [ko_0]; go_num, ?_, hB1⟩
    rw [ko_0]
    have : stp (upd (tK (ndT a)) K (p + 1) (p + 1 + 0)) p ((kidsAt p k).take 0) = K := by
      funext i
      unfold stp upd
      by_cases hi : i = p
      · subst hi; rw [if_pos rfl, HKP.out]; rfl
      · rw [if_neg hi, if_neg (by omega)]
    rw [this]
    exact HW1.out
  case round =>
    obtain ⟨j, hj, rfl, rfl, hW, hB⟩ := hrel
    clear hB1 HW1 hBsz
    have HW := hide hW
    have hmo := ko_mono k j hj
    obtain ⟨c0, c1, c2⟩ := hW.wc
    obtain ⟨b, o, hadd, hb, q0, q1⟩ := HR.out.tok hB hp
    subst hadd
    rw [hpx] at q0 q1
    clear q1
    by_cases hlt : j < k.len
    · obtain ⟨y, m, hy, hny⟩ := hCl.kid HN.out (j := j) (by omega)
      have hks := ko_succ k j y m hy
      have hlt' : (j : Int) < (ar x.k : Int) := by omega
      have hsz := ko_mono k (j + 1) (by omega)
      obtain ⟨s, hs1, hs2, hs3⟩ := hW.row p hp
      obtain ⟨sa, sc, hsf⟩ := own_form hs2
      subst hsf
      have hlen : (stp (upd (tK (ndT a)) K (p + 1) (p + 1 + ko k j)) p ((kidsAt p k).take j) p).length = j := by
        rw [stp_self]; simp [kidsAt]; omega
      rw [hlen] at hs1 hs2 hs3
      have HS2 := hide hs2
      have HS3 := hide hs3
      clear hW hs2 hs3
      obtain ⟨i0, hi0, hz0, hz1, hz2⟩ := infoPartsT infoInt
      have Hi := hide hi0
      have HAr := hide (l3Arity_any x.k)
      rw [if_pos (good_ar gx)] at HAr
      have HLb : Hid (∀ k, (Value.slice sa j sc).ownBlock = some k → base ≤ k ∧ k < wr.heap.size) := hide (HS2.out.lt)
      have hbs : cb < base ∧ kb < base ∧ base ≤ wr.heap.size := by obtain ⟨-, -, -, b1, b2, b3, d1, d2, d3, hs⟩ := HW.out; exact ⟨b1, b2, hs⟩
      obtain ⟨bs1, bs2, bs3⟩ := hbs
      have hfz : wr.frozen? ⟨kb, p, none⟩ = false := by obtain ⟨-, -, ⟨kc, h5, -⟩, -⟩ := HW.out; exact unfrozen_of_blk h5 p
      obtain ⟨en, hen⟩ : ∃ en, en = p + 1 + ko k j := ⟨_, rfl⟩
      rw [← hen]
      have HEn := hide hen
      have hen1 : en ≤ 1000 := by omega
      have M1 : Hid (j + 1 ≤ maxLen) := hide (by unfold maxLen; omega)
      have hj6 : j ≤ 600 := by omega
      clear hi0 hen hks hsz hmo hny hlen
      go_wp2_with (first | (go_at_call 96; refine (HAr.out _).mono ?_; rintro e w' ⟨rfl, hw'⟩; obtain rfl := hw'.symm))
      have HFa : Hid (∀ b, b < base → some b ≠ (Value.slice sa j sc).ownBlock) := hide (fun b hb e => by have := (HLb.out b e.symm).1; omega)
      have a1 : (wr.alloc (.cells #[.int .i64 (en : Int)] 3)).cell? ⟨cb, 1, none⟩ = some (.slice (some ⟨kb, 0, none⟩) l.length l.length) := (World.cell?_alloc_some _ _ _ (by rw [c1]; rfl)).trans c1
      have a2 : (wr.alloc (.cells #[.int .i64 (en : Int)] 3)).cell? ⟨kb, p, none⟩ = some (.slice sa j sc) := (World.cell?_alloc_some _ _ _ (by rw [hs1]; rfl)).trans hs1
      have HPush : Hid (∀ (g6 cap6 : Nat) (w6 : World), w6.ownsRow base 3 1 (.slice (some ⟨g6, 0, none⟩) (j + 1) cap6) (j + 1) (List.map (Value.int .i64) (stp (upd (tK (ndT a)) K (p + 1) (p + 1 + ko k j)) p ((kidsAt p k).take j) p) ++ [.int .i64 (en : Int)]) → World.grownBy (wr.alloc (.cells #[.int .i64 (en : Int)] 3)) w6 (Value.slice sa j sc).ownBlock → ((Value.slice sa j sc).ownBlock = some g6 ∨ g6 = (wr.alloc (.cells #[.int .i64 (en : Int)] 3)).heap.size) →
          WS (w6.setCell ⟨kb, p, none⟩ (.slice (some ⟨g6, 0, none⟩) (j + 1) cap6)) cb kb vb base l.length (.slice (some ⟨b, o, none⟩) l.length c) (upd (tV (ndT a)) V p en) (stp (upd (tK (ndT a)) K (p + 1) en) p ((kidsAt p k).take (j + 1))) ∧ Below w0.heap.size w0 (w6.setCell ⟨kb, p, none⟩ (.slice (some ⟨g6, 0, none⟩) (j + 1) cap6))) := hide (by
        intro g6 cap6 w6 ho hg ha
        have e1 := HEn.out
        have hgs := hg.size
        simp at hgs
        have := HS3.out (.slice (some ⟨g6, 0, none⟩) (j + 1) cap6) w6 (en : Int) ho (fun b hb hne => (hg.block b (by simp; omega) hne).trans (Below.heap_alloc _ _ _ hb)) (by omega) (fun g hg' => by
          simp only [Value.ownBlock, Option.some.injEq] at hg'
          subst hg'
          rcases ha with h | h
          · exact .inl h
          · right; rw [h]; simp)
        rw [stp_self, stp_stp, ← e1] at this
        rw [kids_take hlt, ← e1]
        refine ⟨this, Below.setCell (p := ⟨kb, p, none⟩) ?_ (by show _ ≤ kb; omega) _⟩
        have hbz := hB.size
        exact Below.grown (hB.alloc hbz _) hg (by simp; omega) (fun k hk => by have := HLb.out k hk; omega))
      go_cut [46] from 18 to 61 (fun v wx => WS wx cb kb vb base l.length (.slice (some ⟨b, o, none⟩) l.length c) (upd (tV (ndT a)) V p en) (stp (upd (tK (ndT a)) K (p + 1) en) p ((kidsAt p k).take (j + 1))) ∧ Below w0.heap.size w0 wx)
      case first =>
        go_region_law
          (first
            | (refine step_append_lies _ rfl _ _ 90 rfl base 3 i0 (.int .i64 0) 1 8 Try.underlying90 Hi.out hz0 hz1 hz2 rfl (by decide) _ j _ rfl (HS2.out.alloc _) ⟨wr.heap.size, 0, none⟩ 1 1 [.int .i64 (en : Int)] rfl rfl (newsJ (heap_alloc_new wr _)) (iOne [(en : Int)]) (by omega) M1.out (by omega) (by show base ≤ (wr.alloc _).heap.size; simp; omega) _ rfl ?_; intro g6 cap6 w6 hown6 hgrow6 hat6 hlt6; have hG6 : World.grownBy (wr.alloc (.cells #[.int .i64 (en : Int)] 3)) w6 (Value.slice sa j sc).ownBlock := ⟨hgrow6.os, hgrow6.tape, hgrow6.output, hgrow6.size, hgrow6.block⟩; have HG6 := hide hG6; have HO6 := hide hown6; have hA6 : (Value.slice sa j sc).ownBlock = some g6 ∨ g6 = (wr.alloc (.cells #[.int .i64 (en : Int)] 3)).heap.size := hat6; have HA6 := hide hA6; have f1 := (hG6.cell_far ⟨cb, 1, none⟩ (by simp; omega) (HFa.out cb bs1)).trans ((World.cell?_alloc_some _ _ _ (by rw [c1]; rfl)).trans c1); have f2 := (hG6.cell_far ⟨kb, p, none⟩ (by simp; omega) (HFa.out kb bs2)).trans ((World.cell?_alloc_some _ _ _ (by rw [hs1]; rfl)).trans hs1); have f3 : w6.frozen? ⟨kb, p, none⟩ = false := (hG6.frozen_far ⟨kb, p, none⟩ (by simp; omega) (HFa.out kb bs2)).trans (((Below.refl wr.heap.size wr).alloc (Nat.le_refl _) _).frozen (p := ⟨kb, p, none⟩) (by show kb < _; omega) |>.trans hfz); clear hgrow6 hown6 hat6 hG6 hA6)
            | (go_simp; go_wp2_with fail))
        all_goals
          clear a1 a2 f1 f2 f3
          go_wp2_with fail
          go_meet
          exact HPush.out _ _ _ HO6.out HG6.out HA6.out
      case rest =>
        obtain ⟨hWc, hBc⟩ := hcut
        have HWc := hide hWc
        obtain ⟨d0, d1, d2⟩ := hWc.wc
        obtain ⟨b', o', hadd', hb', q0', q1'⟩ := HR.out.tok hBc hp
        obtain ⟨rfl, rfl⟩ : b' = b ∧ o' = o := by simpa using hadd'.symm
        rw [hpx] at q0'
        clear q1' q0 c0 c1 c2 hs1 hfz hadd' hb' a1 a2 HS2 HS3 HW HPush hWc
        have hml : m.flat.length < k.flat.length := by have := ko_succ k j y m hy; have := ko_mono k (j + 1) (by omega); omega
        have HIH := hide (IH.out m.flat.length (by omega) en (e + binds x.k j) y m wc _ _ (by rw [HEn.out]; exact hCl.kid' HN.out hy) (Nat.le_refl _) HWc.out hBc (fun i h1 h2 => by
          have e1 := HEn.out
          have := ko_succ k j y m hy
          have := ko_mono k (j + 1) (by omega)
          rw [stp_ne _ _ _ _ (by omega)]
          unfold upd
          rw [if_neg (by omega)]
          exact HK.out i (by omega) (by omega)))
        have hbl : binds x.k j ≤ 1 := by unfold binds; split <;> omega
        have HBi := hide (l3Binds_any x.k j)
        obtain ⟨bi, hbi⟩ : ∃ bi, bi = binds x.k j := ⟨_, rfl⟩
        rw [← hbi] at HIH HBi hbl
        rw [Int.natCast_add] at HIH
        clear hbi HWc
        go_wp2_with (first | (go_at_call 95; refine (HBi.out _).mono ?_; rintro e w' ⟨rfl, hw'⟩; obtain rfl := hw'.symm) | (go_at_call 66; (with_reducible refine HIH.out.mono ?_); rintro e w7 ⟨rfl, hW7, hB7⟩))
        have e1 := HEn.out
        have hks := ko_succ k j y m hy
        have e2 : en + 1 + m.flat.length = p + 1 + ko k (j + 1) := by omega
        refine ⟨⟨j + 1, by omega, by go_num, by rw [← e2]; go_num, ?_, hB7⟩, by simp [intOf]; omega⟩
        rw [e2] at hW7
        rw [upd_upd _ _ _ _ _ (by omega) (by omega)] at hW7
        have e3 : upd (tK (ndT a)) (stp (upd (tK (ndT a)) K (p + 1) en) p ((kidsAt p k).take (j + 1))) en (p + 1 + ko k (j + 1)) = stp (upd (tK (ndT a)) K (p + 1) (p + 1 + ko k (j + 1))) p ((kidsAt p k).take (j + 1)) := by
          funext i
          unfold upd stp
          dsimp only
          by_cases hi : i = p
          · rw [if_pos hi, if_pos hi, if_neg (by omega)]
          · rw [if_neg hi, if_neg hi]
            by_cases h1 : en ≤ i ∧ i < p + 1 + ko k (j + 1)
            · rw [if_pos h1, if_pos (by omega)]
            · rw [if_neg h1]
              by_cases h2 : p + 1 ≤ i ∧ i < en
              · rw [if_pos h2, if_pos (by omega)]
              · rw [if_neg h2, if_neg (by omega)]
        rw [e3] at hW7
        exact hW7
    · obtain rfl : j = k.len := by omega
      have HAr := hide (l3Arity_any x.k)
      rw [if_pos (good_ar gx)] at HAr
      have hlt' : ¬ ((k.len : Nat) : Int) < (ar x.k : Int) := by omega
      have HKo := hide (ko_len k)
      obtain ⟨en, hen⟩ : ∃ en, en = p + 1 + ko k k.len := ⟨_, rfl⟩
      rw [← hen]
      rw [← hen] at HW
      have HEn := hide hen
      clear hen hW hmo
      go_wp2_with (first | (go_at_call 96; refine (HAr.out _).mono ?_; rintro e w' ⟨rfl, hw'⟩; obtain rfl := hw'.symm))
      go_ret
      have e1 := HEn.out
      have e2 := HKo.out
      refine ⟨ret_int (by rw [e1, e2]), ?_, hB⟩
      have hw := HW.out
      rw [e1, e2] at hw
      have e3 : stp (upd (tK (ndT a)) K (p + 1) (p + 1 + k.flat.length)) p ((kidsAt p k).take k.len) = upd (tK (ndT a)) K p (p + 1 + k.flat.length) := by
        funext i
        unfold upd stp
        dsimp only
        by_cases hi : i = p
        · subst hi
          rw [if_pos rfl, if_pos (by omega)]
          unfold tK
          rw [HN.out]
          exact List.take_of_length_le (by simp [kidsAt])
        · rw [if_neg hi]
          by_cases h1 : p ≤ i ∧ i < p + 1 + k.flat.length
          · rw [if_pos h1, if_pos (by omega)]
          · rw [if_neg h1, if_neg (by omega)]
      rw [e3] at hw
      exact hw
theorem l6Walk_any (w0 : World) (ad : Option Addr) (c : Nat) (l : List Cc) (a : F) (cb kb vb base : Nat) (hCl : Cl l a) (hR : CRow w0 ad l) (g1 : w0.heap.size ≤ cb) (g2 : w0.heap.size ≤ kb) (g3 : w0.heap.size ≤ vb) (f : Nat) : LWGoal w0 ad c l a cb kb vb base f := by
  induction f using Nat.strongRecOn with
  | ind f ih => exact l6Walk_step w0 ad c l a cb kb vb base f hCl hR g1 g2 g3 ih
end Go.Proofs.Ytdajalchdbgooaa.W

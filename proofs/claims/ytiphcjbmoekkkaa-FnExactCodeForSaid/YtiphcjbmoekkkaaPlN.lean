/-
  CodeFor of the program: which parts are done first by what they need; its contract. Conditions: at most 1048576 cells.
-/
import Derived.Test.YtiphcjbmoekkkaaPlQ
namespace Go.Proofs.Ytiphcjbmoekkkaa.L
open Go.Proofs.Ytiphcjbmoekkkaa.W
open Go.ChangeShapes Go.WideShapes Go.ChangeAt Go.RowKit
set_option linter.unusedVariables false
set_option linter.unusedSimpArgs false

/-- Of each cell whether its tree's second part needs more. -/
def Tr.rl : Tr → List Bool
  | .ld _ => [false]
  | .op o a b => decide (a.plc < b.plc) :: (a.rl ++ b.rl)
theorem Tr.rl_len : ∀ t : Tr, t.rl.length = t.flat.length
  | .ld _ => rfl
  | .op o a b => by simp [Tr.rl, Tr.flat, Tr.rl_len a, Tr.rl_len b]
noncomputable def cfL (l : List Cc) : List Cd := if goodT l = true then (trOf l).cd (RB (trOf l).rl) 0 0 else []
noncomputable def cfN (l : List Cc) : Nat := if goodT l = true then (trOf l).us (RB (trOf l).rl) 0 0 else 0
theorem cf_bad {l : List Cc} (h : goodT l = false) : cfL l = [] ∧ cfN l = 0 := by
  unfold cfL cfN
  rw [if_neg (by rw [h]; simp), if_neg (by rw [h]; simp)]
  exact ⟨rfl, rfl⟩
theorem cf_ok {l : List Cc} (h : goodT l = true) : cfL l = cbL l (trOf l).rl ∧ cfN l = cbN l (trOf l).rl ∧ okB l (trOf l).rl = true := by
  obtain ⟨t1, t2, t3, -⟩ := trOf_good h
  have hok : okB l (trOf l).rl = true := by
    unfold okB; rw [h, Tr.rl_len, ← t2]; simp
  obtain ⟨e1, e2, -, -⟩ := cb_ok hok
  unfold cfL cfN
  rw [if_pos h, if_pos h, e1, e2]
  exact ⟨rfl, rfl, hok⟩
theorem cfL_len (l : List Cc) : (cfL l).length ≤ 1048576 := by
  cases h : goodT l with
  | false => rw [(cf_bad h).1]; simp
  | true => rw [(cf_ok h).1]; exact cbL_len _ _
/-- What the row of truths says at the place of a tree. -/
theorem rl_at : ∀ (t : Tr) (l : List Cc) (i : Nat) (s : Tr) (k : Nat), Sub l i t → Sub l (i + k) s → k < t.flat.length → t.rl[k]? = some s.rg
  | .ld n, l, i, s, k, ht, hs, hk => by
    obtain rfl : k = 0 := by simpa [Tr.flat] using hk
    have := Sub.eq (show Sub l i s from hs) ht
    subst this
    rfl
  | .op o a b, l, i, s, k, ht, hs, hk => by
    obtain ⟨ha, hb⟩ := ht.kids
    have hl : (Tr.op o a b).flat.length = 1 + (a.flat.length + b.flat.length) := by simp [Tr.flat]; omega
    rw [hl] at hk
    show (decide (a.plc < b.plc) :: (a.rl ++ b.rl))[k]? = _
    cases k with
    | zero =>
      have := Sub.eq (show Sub l i s from hs) ht
      subst this
      rfl
    | succ j =>
      rw [List.getElem?_cons_succ]
      by_cases hj : j < a.flat.length
      · rw [List.getElem?_append_left (by rw [Tr.rl_len]; exact hj)]
        exact rl_at a l (i + 1) s j ha (by rw [show i + 1 + j = i + (j + 1) by omega]; exact hs) hj
      · rw [List.getElem?_append_right (by rw [Tr.rl_len]; omega), Tr.rl_len]
        exact rl_at b l (i + 1 + a.flat.length) s (j - a.flat.length) hb (by rw [show i + 1 + a.flat.length + (j - a.flat.length) = i + (j + 1) by omega]; exact hs) (by omega)

/-- The row of truths as far as it is told. -/
def rlUp (RL : List Bool) (i j : Nat) : Bool := if j < i then RL[j]?.getD false else false
theorem rlUp_succ (RL : List Bool) (i j : Nat) : rlUp RL (i + 1) j = if j = i then RL[i]?.getD false else rlUp RL i j := by
  unfold rlUp
  by_cases e : j = i
  · subst e; rw [if_pos rfl, if_pos (by omega)]
  · rw [if_neg e]
    by_cases h : j < i
    · rw [if_pos h, if_pos (by omega)]
    · rw [if_neg h, if_neg (by omega)]
theorem grownOfB {w w' : World} {row : Option Nat} (h : Below w.heap.size w w') : w.grownBy w' row := ⟨h.os, h.tape, h.output, h.size, fun k hk _ => h.block k hk⟩

set_option maxRecDepth 20000 in
set_option maxHeartbeats 4000000 in
theorem implCodeFor_any (b o c : Nat) (l : List Cc) (w : World) (hl : l.length ≤ 1048576) (hc : l.length ≤ c) (h : CRow w (some ⟨b, o, none⟩) l) :
    Calls Try.prog 17 #[.slice (some ⟨b, o, none⟩) l.length c] w fun e w' => ∃ v, e = .returned (.tuple #[v, .int .i64 (cfN l : Int), .bool (goodT l)]) ∧ w'.ownsRow w.heap.size 74 5 v (cfL l).length (dv (cfL l)) ∧ Below w.heap.size w w' := by
  have HG := hide (implGoodT_any b o c l w hl hc h)
  cases hg : goodT l with
  | false =>
    rw [(cf_bad hg).1, (cf_bad hg).2]
    have HN : Hid (∀ w' : World, w'.ownsRow w.heap.size 74 5 (.slice none 0 0) 0 (dv [])) := hide (fun w' => World.ownsRow_nil _ _ _ _)
    rw [hg] at HG
    clear h
    go_enter Try.func17, Try.ntmps17
    go_wp2_with fail
    refine HG.out.mono ?_
    rintro e w1 ⟨rfl, hb1⟩
    go_wp2_with fail
    exact bodyPost_ret (v := .tuple #[.slice none 0 0, .int .i64 0, .bool false]) (by simp [results, Try.results17, go_sem]) rfl ⟨_, rfl, HN.out _, hb1⟩
  | true =>
    obtain ⟨e1, e2, hok⟩ := cf_ok hg
    rw [hg] at HG
    obtain ⟨t1, t2, t3, -⟩ := trOf_good hg
    have hpos : 0 < l.length := by rw [t2]; exact (trOf l).flat_pos
    have hrow : CRowAt w b o l := by
      rcases h with h | ⟨b', o', e, h⟩
      · rw [h] at hpos; simp at hpos
      · simp only [Option.some.injEq, Addr.mk.injEq, and_true] at e
        obtain ⟨rfl, rfl⟩ := e
        exact h
    have hs0 : Sub l 0 (trOf l) := by have := Sub.root t1; rwa [← t2] at this
    have HRow : Hid (∀ w', Below w.heap.size w w' → CRowAt w' b o l) := hide (fun w' hb => ⟨Nat.lt_of_lt_of_le hrow.1 hb.size, fun i hi => ⟨(hb.cell (p := ⟨b, o + i * 2, none⟩) hrow.1).trans (hrow.2 i hi).1, (hb.cell (p := ⟨b, o + i * 2 + 1, none⟩) hrow.1).trans (hrow.2 i hi).2⟩⟩)
    have HT := hide (fun (w' : World) (hb : Below w.heap.size w w') => placesBy_told b o c l (trOf l) w' t1 t2 t3 hc (HRow.out w' hb))
    have HPu := hide (fun (w' : World) (hb : Below w.heap.size w w') i k1 a b' hs => partsUnder_any (some ⟨b, o, none⟩) c l i k1 a b' w' hl hc (.inr ⟨b, o, rfl, HRow.out w' hb⟩) hs)
    have hrll : (trOf l).rl.length = l.length := by rw [Tr.rl_len, ← t2]
    have HCb := hide (fun (w' : World) (hb : Below w.heap.size w w') (ra : Option Addr) (rc : Nat) (hr : ORow w' ra (trOf l).rl) => implCodeBy_any b o c l ra rc (trOf l).rl w' hl hc (.inr ⟨b, o, rfl, HRow.out w' hb⟩) (by omega) hr)
    have HSub : Hid (∀ i, i < l.length → ∃ s, Sub l i s) := hide (fun i hi => by
      rw [t2] at hi ⊢
      obtain ⟨s, r, h1, h2⟩ := Tr.at_ t1 hi
      exact ⟨s, h1, r, h2⟩)
    have hRL : ∀ i s, Sub l i s → (trOf l).rl[i]? = some s.rg := fun i s hs => rl_at (trOf l) l 0 s i hs0 (by rw [Nat.zero_add]; exact hs) (by rw [← t2]; exact hs.lt')
    have HRLs := hide hRL
    rw [← e1, ← e2, hok] at HCb
    rw [hrll] at HCb
    obtain ⟨RL, hRLe⟩ : ∃ RL, RL = (trOf l).rl := ⟨_, rfl⟩
    obtain ⟨CL, hCL⟩ : ∃ CL, CL = cfL l := ⟨_, rfl⟩
    obtain ⟨CN, hCN⟩ : ∃ CN, CN = cfN l := ⟨_, rfl⟩
    rw [← hRLe] at HCb HRLs hrll
    rw [← hCL, ← hCN] at HCb ⊢
    have hmk := mk_Bool1 l.length hl
    have hbw := hrow.1
    clear h e1 e2 hg t1 t2 hs0 hrow hok hRL hRLe hCL hCN
    go_enter Try.func17, Try.ntmps17
    go_wp2_with fail
    refine HG.out.mono ?_
    rintro e w1 ⟨rfl, hb1⟩
    have HB1 := hide hb1
    clear hb1
    go_wp2_with fail
    refine (HT.out w1 HB1.out).mono ?_
    rintro e w2 ⟨g, rfl, hg2, hc2, hb2⟩
    have HB2 := hide (HB1.out.trans (hb2.mono HB1.out.size))
    have HTold := hide hc2
    clear hb2 hc2 HG HT
    go_wp2_with fail
    obtain ⟨B, hBe⟩ : ∃ B, B = w2.heap.size := ⟨_, rfl⟩
    obtain ⟨W0, hW0⟩ : ∃ W0, W0 = w2.alloc (.cells (madeCells #[.bool false] l.length) 4) := ⟨_, rfl⟩
    have hs0 : W0.heap.size = B + 1 := by rw [hW0, hBe]; simp
    have hB0 : Below w.heap.size w W0 := by rw [hW0]; exact HB2.out.alloc HB2.out.size _
    have hBl : w.heap.size ≤ B := by rw [hBe]; exact HB2.out.size
    have hgB : g < B := by rw [hBe]; exact hg2
    have hcu0 : W0.heap[B]? = some (.cells (madeCells #[.bool false] l.length) 4 (0, 0)) := by rw [hW0, hBe]; exact heap_alloc_new w2 _
    have hT : ∀ i s, Sub l i s → W0.cell? ⟨g, i, none⟩ = some (.int .i64 s.pv) := fun i s hs => by
      rw [hW0]
      exact (((Below.refl w2.heap.size w2).alloc (Nat.le_refl _) _).cell (p := ⟨g, i, none⟩) hg2).trans (HTold.out i s hs)
    have hRL := HRLs.out
    rw [← hW0, ← hBe]
    clear hW0 hBe hmk HTold HB2 HB1
    go_loopw [21] (fun i w' => ∃ (j : Nat) (cur : Array Value), j ≤ l.length ∧ i = .int .i64 j ∧ w'.heap[B]? = some (.cells cur 4 (0, 0)) ∧ cur.size = l.length ∧ (∀ k, k < l.length → cur[k]? = some (.bool (rlUp RL j k))) ∧ W0.grownBy w' (some B) ∧ Below w.heap.size w w') (fun i _ => l.length - (intOf i).toNat)
    case atStart => exact ⟨0, _, by omega, rfl, hcu0, by simp [madeCells], fun k hk => by simp [madeCells, hk, rlUp, Nat.mod_one], ⟨rfl, rfl, rfl, Nat.le_refl _, fun _ _ _ => rfl⟩, hB0⟩
    case round =>
      obtain ⟨j, cur, hj, rfl, hcu, hcs, hcv, hGr, hB⟩ := hrel
      clear hcu0 hB0
      by_cases hlt : j < l.length
      · have hlt' : (j : Int) < (l.length : Int) := by omega
        have hj0 : (0 : Int) ≤ (j : Int) := by omega
        obtain ⟨p0, p1⟩ := (HRow.out wr hB).2 j hlt
        obtain ⟨s, hs⟩ := HSub.out j hlt
        have hcell := hs.cell hlt
        rw [hcell] at p0 p1
        have hgs := hGr.size
        have hBs : B < wr.heap.size := by omega
        cases s with
        | ld n =>
          simp only [Tr.x] at p0 p1
          have hrl := hRL j _ hs
          have hgr2 : W0.grownBy (wr.alloc (.cells #[.int .i64 1, .int .i64 n] 55)) (some B) := grownT hGr (grownA wr _ _) (fun k hk => .inl hk)
          have hb2 : Below w.heap.size w (wr.alloc (.cells #[.int .i64 1, .int .i64 n] 55)) := hB.alloc hB.size _
          have hc2 : (wr.alloc (.cells #[.int .i64 1, .int .i64 n] 55)).heap[B]? = some (.cells cur 4 (0, 0)) := (heap_alloc_old _ _ hBs).trans hcu
          have H2 := hide (And.intro hgr2 (And.intro hb2 hc2))
          have HCV := hide hcv
          have HRl := hide hrl
          clear hgr2 hb2 hc2 hcu hGr hB hcv hrl
          go_wp2_with fail
          refine ⟨⟨j + 1, cur, by omega, by go_num, H2.out.2.2, hcs, fun k hk => ?_, H2.out.1, H2.out.2.1⟩, by simp [intOf]; omega⟩
          rw [rlUp_succ]
          by_cases e : k = j
          · subst e
            rw [if_pos rfl, HRl.out, HCV.out k hk]
            simp [rlUp, Tr.rg]
          · rw [if_neg e]; exact HCV.out k hk
        | op k1 a2 b2 =>
          simp only [Tr.x] at p0 p1
          have ho := op_ne hs.1.1
          obtain ⟨hka, hkb⟩ := hs.kids
          have hla := hka.lt'
          have hlb := hkb.lt'
          have HCp := hide (HPu.out _ (hB.alloc hB.size (.cells #[.int .i64 k1, .int .i64 0] 55)) j k1 a2 b2 hs)
          have hrg : (Tr.op k1 a2 b2).rg = decide (a2.pv < b2.pv) := by show decide (a2.plc < b2.plc) = decide ((a2.plc : Int) < (b2.plc : Int)); congr 1; rw [eq_iff_iff]; omega
          obtain ⟨J1, hJ1⟩ : ∃ J1, J1 = j + 1 := ⟨_, rfl⟩
          rw [← hJ1] at HCp hka hkb hla hlb
          obtain ⟨J2, hJ2⟩ : ∃ J2, J2 = J1 + a2.flat.length := ⟨_, rfl⟩
          rw [← hJ2] at HCp hkb hlb
          obtain ⟨J3, hJ3⟩ : ∃ J3, J3 = J2 + b2.flat.length := ⟨_, rfl⟩
          rw [← hJ3] at HCp
          have hj1 : (0 : Int) ≤ (J1 : Int) := by omega
          have hj2 : (0 : Int) ≤ (J2 : Int) := by omega
          have hj1l : (J1 : Int) < (l.length : Int) := by omega
          have hj2l : (J2 : Int) < (l.length : Int) := by omega
          have hta := (hT _ _ hka)
          have htb := (hT _ _ hkb)
          have HRg := hide hrg
          have HRL := hide (hRL j _ hs)
          clear hka hkb hJ1 hJ2 hJ3 hrg hla hlb hs
          go_wp2_with fail
          refine HCp.out.mono ?_
          rintro e w4 ⟨rfl, hb4⟩
          have hs4 := hb4.size
          simp only [World.size_alloc] at hs4
          have hg4 : W0.grownBy w4 (some B) := grownT (grownT hGr (grownA wr (.cells #[.int .i64 k1, .int .i64 0] 55) _) (fun k hk => .inl hk)) (grownOfB hb4) (fun k hk => .inl hk)
          have hcu4 : w4.heap[B]? = some (.cells cur 4 (0, 0)) := (hb4.block B (by simp; omega)).trans ((heap_alloc_old _ _ (by omega)).trans hcu)
          have hB4 : Below w.heap.size w w4 := (hB.alloc hB.size _).trans (hb4.mono (by have := hB.size; simp; omega))
          have hw0 := hg4.size
          clear hb4 hcu hGr hB
          go_wp2_with fail
          obtain ⟨Wc, hWc⟩ : ∃ Wc, Wc = (w4.alloc (.cells #[.int .i64 (J1 : Int), .int .i64 (J2 : Int)] 60)).alloc (.cells #[.int .i64 (J2 : Int), .int .i64 (J3 : Int)] 60) := ⟨_, rfl⟩
          have hsC : Wc.heap.size = w4.heap.size + 1 + 1 := by rw [hWc]; simp
          have hgC : W0.grownBy Wc (some B) := by rw [hWc]; exact grownT (grownT hg4 (grownA w4 _ _) (fun k hk => .inl hk)) (grownA _ _ _) (fun k hk => .inl hk)
          have hBC : Below w.heap.size w Wc := by rw [hWc]; exact (hB4.alloc hB4.size _).alloc (by have := hB4.size; simp; omega) _
          have hcC : Wc.heap[B]? = some (.cells cur 4 (0, 0)) := by rw [hWc, heap_alloc_old _ _ (by simp; omega), heap_alloc_old _ _ (by omega)]; exact hcu4
          have y9 : Wc.heap[w4.heap.size]? = some (.cells #[.int .i64 (J1 : Int), .int .i64 (J2 : Int)] 60 (0, 0)) := by rw [hWc, heap_alloc_old _ _ (by simp)]; exact heap_alloc_new w4 _
          have y10 : Wc.heap[w4.heap.size + 1]? = some (.cells #[.int .i64 (J2 : Int), .int .i64 (J3 : Int)] 60 (0, 0)) := by rw [hWc]; have := heap_alloc_new (w4.alloc (.cells #[.int .i64 (J1 : Int), .int .i64 (J2 : Int)] 60)) (.cells #[.int .i64 (J2 : Int), .int .i64 (J3 : Int)] 60); simpa using this
          have hgb := (hgC.block g (by omega) (fun e => by simp only [Option.some.injEq] at e; omega))
          rw [← hWc]
          clear hWc hg4 hB4 hcu4
          have wa := (World.cell?_of_block (a := ⟨g, J1, none⟩) (w := W0) hgb).trans hta
          have wb := (World.cell?_of_block (a := ⟨g, J2, none⟩) (w := W0) hgb).trans htb
          have w9 := (cell_of_blk y9 0).trans rfl
          have w10 := (cell_of_blk y10 0).trans rfl
          have gBn : g ≠ B := by omega
          have HAll : Hid (∀ W1 : World, (∀ k, k < Wc.heap.size → k ≠ B → W1.heap[k]? = Wc.heap[k]?) → W1.cell? ⟨w4.heap.size + 1, 0, none⟩ = some (.int .i64 (J2 : Int)) ∧ W1.cell? ⟨w4.heap.size, 0, none⟩ = some (.int .i64 (J1 : Int)) ∧ W1.cell? ⟨g, J2, none⟩ = some (.int .i64 b2.pv) ∧ W1.cell? ⟨g, J1, none⟩ = some (.int .i64 a2.pv)) := hide (fun W1 h => ⟨(World.cell?_of_block (w := Wc) (h (w4.heap.size + 1) (by omega) (by omega))).trans w10, (World.cell?_of_block (w := Wc) (h w4.heap.size (by omega) (by omega))).trans w9, (World.cell?_of_block (w := Wc) (h g (by omega) gBn)).trans wb, (World.cell?_of_block (w := Wc) (h g (by omega) gBn)).trans wa⟩)
          have hz := hcv j hlt
          have t0 := (cell_of_blk hcC j).trans hz
          have tf := unfrozen_of_blk hcC j
          have HGC := hide hgC
          have HBC := hide hBC
          have HCC := hide hcC
          have HCV := hide hcv
          clear hgC hBC hcC y9 y10 hgb wa wb w9 w10 hz hcv hta htb
          refine wp_region_noPanic ?_
          refine wp_region_held_drew (S := fun W1 => W1.cell? ⟨w4.heap.size + 1, 0, none⟩ = some (.int .i64 (J2 : Int)) ∧ W1.cell? ⟨w4.heap.size, 0, none⟩ = some (.int .i64 (J1 : Int)) ∧ W1.cell? ⟨g, J2, none⟩ = some (.int .i64 b2.pv) ∧ W1.cell? ⟨g, J1, none⟩ = some (.int .i64 a2.pv)) (by kernel_rfl) (HAll.out _ (fun _ _ _ => rfl)) (fun hHeld => ?_)
          refine wpAnyH_take (i := 0) (oi := _) (v := ?_) rfl (by kernel_rfl) (by kernel_rfl) (by kernel_rfl) (fun _ _ _ h => h) (Or.inl ⟨by rfl, ?_⟩) (by assumption) ?_
          rotate_left 1
          · (intro w hSw; (try dsimp only at hSw); (first | (go_simp; done) | (go_simp; with_reducible rfl)))
          try simp only [Act.put, List.getElem_toArray, List.getElem_cons_zero, List.getElem_cons_succ, List.setIfInBounds_toArray, List.set_cons_zero, List.set_cons_succ]
          refine wpAnyH_take (i := 1) (oi := _) (v := ?_) rfl (by kernel_rfl) (by kernel_rfl) (by kernel_rfl) (fun _ _ _ h => h) (Or.inl ⟨by rfl, ?_⟩) (by assumption) ?_
          rotate_left 1
          · (intro w hSw; (try dsimp only at hSw); (first | (go_simp; done) | (go_simp; with_reducible rfl)))
          try simp only [Act.put, List.getElem_toArray, List.getElem_cons_zero, List.getElem_cons_succ, List.setIfInBounds_toArray, List.set_cons_zero, List.set_cons_succ]
          refine wpAnyH_take (i := 2) (oi := _) (v := ?_) rfl (by kernel_rfl) (by kernel_rfl) (by kernel_rfl) (fun _ _ _ h => h) (Or.inl ⟨by rfl, ?_⟩) (by assumption) ?_
          rotate_left 1
          · (intro w hSw; (try dsimp only at hSw); (first | (go_simp; done) | (go_simp; with_reducible rfl)))
          try simp only [Act.put, List.getElem_toArray, List.getElem_cons_zero, List.getElem_cons_succ, List.setIfInBounds_toArray, List.set_cons_zero, List.set_cons_succ]
          refine wpAnyH_take (i := 3) (oi := _) (v := ?_) rfl (by kernel_rfl) (by kernel_rfl) (by kernel_rfl) (fun _ _ _ h => h) (Or.inl ⟨by rfl, ?_⟩) (by assumption) ?_
          rotate_left 1
          · (intro w hSw; (try dsimp only at hSw); (first | (go_simp; done) | (go_simp; with_reducible rfl)))
          try simp only [Act.put, List.getElem_toArray, List.getElem_cons_zero, List.getElem_cons_succ, List.setIfInBounds_toArray, List.set_cons_zero, List.set_cons_succ]
          refine wpAnyH_take (i := 4) (oi := _) (v := ?_) rfl (by kernel_rfl) (by kernel_rfl) (by kernel_rfl) (fun _ _ _ h => h) (Or.inl ⟨by rfl, ?_⟩) (by assumption) ?_
          rotate_left 1
          · (intro w hSw; (try dsimp only at hSw); (first | (go_simp; done) | (go_simp; with_reducible rfl)))
          try simp only [Act.put, List.getElem_toArray, List.getElem_cons_zero, List.getElem_cons_succ, List.setIfInBounds_toArray, List.set_cons_zero, List.set_cons_succ]
          refine wpAnyH_take (i := 5) (oi := _) (v := ?_) rfl (by kernel_rfl) (by kernel_rfl) (by kernel_rfl) (fun _ _ _ h => h) (Or.inl ⟨by rfl, ?_⟩) (by assumption) ?_
          rotate_left 1
          · (intro w hSw; (try dsimp only at hSw); (first | (go_simp; done) | (go_simp; with_reducible rfl)))
          try simp only [Act.put, List.getElem_toArray, List.getElem_cons_zero, List.getElem_cons_succ, List.setIfInBounds_toArray, List.set_cons_zero, List.set_cons_succ]
          refine wpAnyH_take (i := 6) (oi := _) (v := ?_) rfl (by kernel_rfl) (by kernel_rfl) (by kernel_rfl) (fun _ _ _ h => h) (Or.inl ⟨by rfl, ?_⟩) (by assumption) ?_
          rotate_left 1
          · (intro w hSw; (try dsimp only at hSw); (first | (go_simp; done) | (go_simp; with_reducible rfl)))
          try simp only [Act.put, List.getElem_toArray, List.getElem_cons_zero, List.getElem_cons_succ, List.setIfInBounds_toArray, List.set_cons_zero, List.set_cons_succ]
          refine wpAnyH_take (i := 7) (oi := _) (v := ?_) rfl (by kernel_rfl) (by kernel_rfl) (by kernel_rfl) (fun _ _ _ h => h) (Or.inl ⟨by rfl, ?_⟩) (by assumption) ?_
          rotate_left 1
          · (intro w hSw; (try dsimp only at hSw); (first | (go_simp; done) | (go_simp; with_reducible rfl)))
          try simp only [Act.put, List.getElem_toArray, List.getElem_cons_zero, List.getElem_cons_succ, List.setIfInBounds_toArray, List.set_cons_zero, List.set_cons_succ]
          refine wpAnyH_take (i := 8) (oi := _) (v := ?_) rfl (by kernel_rfl) (by kernel_rfl) (by kernel_rfl) (fun _ _ _ h => h) (Or.inl ⟨by rfl, ?_⟩) (by assumption) ?_
          rotate_left 1
          · (intro w hSw; (try dsimp only at hSw); (first | (go_simp; done) | (go_simp; with_reducible rfl)))
          try simp only [Act.put, List.getElem_toArray, List.getElem_cons_zero, List.getElem_cons_succ, List.setIfInBounds_toArray, List.set_cons_zero, List.set_cons_succ]
          refine wpAnyH_take (i := 9) (oi := _) (v := ?_) rfl (by kernel_rfl) (by kernel_rfl) (by kernel_rfl) (fun _ _ _ h => h) (Or.inl ⟨by rfl, ?_⟩) (by assumption) ?_
          rotate_left 1
          · (intro w hSw; (try dsimp only at hSw); (first | (go_simp; done) | (go_simp; with_reducible rfl)))
          try simp only [Act.put, List.getElem_toArray, List.getElem_cons_zero, List.getElem_cons_succ, List.setIfInBounds_toArray, List.set_cons_zero, List.set_cons_succ]
          refine wpAnyH_take (i := 10) (oi := _) (v := ?_) rfl (by kernel_rfl) (by kernel_rfl) (by kernel_rfl) (fun _ _ _ h => h) (Or.inl ⟨by rfl, ?_⟩) (by assumption) ?_
          rotate_left 1
          · (intro w hSw; (try dsimp only at hSw); (first | (go_simp; done) | (go_simp; with_reducible rfl)))
          try simp only [Act.put, List.getElem_toArray, List.getElem_cons_zero, List.getElem_cons_succ, List.setIfInBounds_toArray, List.set_cons_zero, List.set_cons_succ]
          refine wpAnyH_take (i := 11) (oi := _) (v := ?_) rfl (by kernel_rfl) (by kernel_rfl) (by kernel_rfl) (fun _ _ _ h => h) (Or.inl ⟨by rfl, ?_⟩) (by assumption) ?_
          rotate_left 1
          · (intro w hSw; (try dsimp only at hSw); (first | (go_simp; done) | (go_simp; with_reducible rfl)))
          try simp only [Act.put, List.getElem_toArray, List.getElem_cons_zero, List.getElem_cons_succ, List.setIfInBounds_toArray, List.set_cons_zero, List.set_cons_succ]
          refine wpAnyH_take (i := 12) (oi := _) (v := ?_) rfl (by kernel_rfl) (by kernel_rfl) (by kernel_rfl) (fun _ _ _ h => h) (Or.inl ⟨by rfl, ?_⟩) (by assumption) ?_
          rotate_left 1
          · (intro w hSw; (try dsimp only at hSw); (first | (go_simp; done) | (go_simp; with_reducible rfl)))
          try simp only [Act.put, List.getElem_toArray, List.getElem_cons_zero, List.getElem_cons_succ, List.setIfInBounds_toArray, List.set_cons_zero, List.set_cons_succ]
          refine wpAnyH_take (i := 13) (oi := _) (v := ?_) rfl (by kernel_rfl) (by kernel_rfl) (by kernel_rfl) (fun _ _ _ h => h) (Or.inl ⟨by rfl, ?_⟩) (by assumption) ?_
          rotate_left 1
          · (intro w hSw; (try dsimp only at hSw); (first | (go_simp; done) | (go_simp; with_reducible rfl)))
          try simp only [Act.put, List.getElem_toArray, List.getElem_cons_zero, List.getElem_cons_succ, List.setIfInBounds_toArray, List.set_cons_zero, List.set_cons_succ]
          refine wpAnyH_ready (rs := [14]) (by kernel_rfl) (by simp) ?_
          refine AllReadyH.cons (o := _) rfl (fun K hK => ?_) AllReadyH.nil
          go_simp
          refine hK.out _ _ (HAll.out _ (fun k h1 h2 => Below.heap_setCell Wc _ _ _ h2)) (fun hHeld => ?_)
          clear hK K
          try simp only [Act.put, List.getElem_toArray, List.getElem_cons_zero, List.getElem_cons_succ, List.setIfInBounds_toArray, List.set_cons_zero, List.set_cons_succ]
          refine wpAnyH_done (by kernel_rfl) ?_ _
          refine NoPanic.normal ?_
          clear hHeld
          have hbS := HBC.out.setCell (p := ⟨B, j, none⟩) hBl (.bool (decide (a2.pv < b2.pv)))
          have HbS := hide hbS
          clear hbS
          have hcs2 := hcs
          clear hcs t0 tf
          go_wp2_with fail
          refine ⟨⟨j + 1, cur.setIfInBounds j (.bool (decide (a2.pv < b2.pv))), by omega, by go_num, blk_setCell HCC.out _, by simp [hcs2], fun k hk => ?_, ⟨HGC.out.os, HGC.out.tape, HGC.out.output, by simp [World.setCell]; omega, fun k hk hne => (Below.heap_setCell Wc _ _ _ (fun e => hne (by rw [e]))).trans (HGC.out.block k hk hne)⟩, ⟨HbS.out.os, HbS.out.tape, HbS.out.output, HbS.out.size, HbS.out.block⟩⟩, by simp [intOf]; omega⟩
          rw [Array.getElem?_setIfInBounds, rlUp_succ]
          by_cases e : j = k
          · subst e
            rw [if_pos rfl, if_pos (by omega), if_pos rfl, HRL.out, HRg.out]; rfl
          · rw [if_neg e, if_neg (fun e2 => e e2.symm)]
            exact HCV.out k hk
      · obtain rfl : j = l.length := by omega
        have hOR : ORow wr (some ⟨B, 0, none⟩) RL := .inr ⟨B, 0, rfl, (Array.getElem?_eq_some_iff.1 hcu).1, fun i hi r hr => by
          obtain rfl : r = 0 := by omega
          rw [cell_of_blk hcu, Nat.mul_one, Nat.add_zero, Nat.zero_add, hcv i (by omega)]
          simp [rlUp, oC, List.getElem?_eq_getElem hi, show i < l.length by omega]⟩
        have HC2 := hide (HCb.out wr hB (some ⟨B, 0, none⟩) l.length hOR)
        have HB := hide hB
        clear hOR hcu hcv hGr hB hRL hT HCb HPu HRow
        go_wp2_with fail
        refine HC2.out.mono ?_
        rintro e w5 ⟨v, rfl, ho, hb5⟩
        have HO := hide (own_lower ho HB.out.size)
        have HB5 := hide (HB.out.trans (hb5.mono HB.out.size))
        obtain ⟨a5, c5, rfl⟩ := own_form ho
        clear ho hb5 HC2
        go_wp2_with fail
        exact bodyPost_ret (v := .tuple #[.slice a5 CL.length c5, .int .i64 (CN : Int), .bool true]) (by simp [results, Try.results17, go_sem]) rfl ⟨_, rfl, HO.out, HB5.out⟩
end Go.Proofs.Ytiphcjbmoekkkaa.L

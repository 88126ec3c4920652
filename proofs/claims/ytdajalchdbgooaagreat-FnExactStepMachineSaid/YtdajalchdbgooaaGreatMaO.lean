/-
  Contracts of l6Of (the specification's code of a closed term) and of isClosed, StartMachine of both sides. Conditions: at most 1048576 cells.
-/
import Derived.Test.YtdajalchdbgooaaGreatMaW
import Derived.Test.YtdajalchdbgooaaGreatMaL
namespace Go.Proofs.YtdajalchdbgooaaGreat.W
open Go.ChangeShapes Go.WideShapes Go.ChangeAt Go.RowKit
set_option linter.unusedVariables false

theorem bsc {B : Nat} {a w : World} (h : Below B a w) (b i : Nat) (v : Value) (hb : B ≤ b) : Below B a (w.setCell ⟨b, i, none⟩ v) := h.setCell (p := ⟨b, i, none⟩) hb v
theorem bsc0 {B : Nat} {a w : World} (h : Below B a w) (i : Nat) (v : Value) : Below B a (w.setCell ⟨B, i, none⟩ v) := bsc h B i v (Nat.le_refl _)
/-- A code that is read in memory. -/
structure CD (w : World) (cb : Nat) (tv : Value) (n : Nat) (a : F) : Prop where
  ex : ∃ kb vb, Bx w cb #[tv, .slice (some ⟨kb, 0, none⟩) n n, .slice (some ⟨vb, 0, none⟩) n n] 82 ∧ kb < w.heap.size ∧ vb < w.heap.size ∧ (∀ i, i < n → w.cell? ⟨vb, i, none⟩ = some (.int .i64 (tV (ndT a) i))) ∧ ∀ i, i < n → ∃ s, w.cell? ⟨kb, i, none⟩ = some s ∧ IS w s (tK (ndT a) i)
theorem CD.lt {w : World} {cb n : Nat} {tv : Value} {a : F} (h : CD w cb tv n a) : cb < w.heap.size := by
  obtain ⟨kb, vb, h1, -⟩ := h.ex
  exact h1.lt
theorem CD.below {w w' : World} {cb n : Nat} {tv : Value} {a : F} (h : CD w cb tv n a) (hb : Below w.heap.size w w') : CD w' cb tv n a := by
  obtain ⟨kb, vb, h1, h2, h3, h4, h5⟩ := h.ex
  refine ⟨kb, vb, h1.below hb h1.lt, Nat.lt_of_lt_of_le h2 hb.size, Nat.lt_of_lt_of_le h3 hb.size, fun i hi => (hb.cell (p := ⟨vb, i, none⟩) h3).trans (h4 i hi), fun i hi => ?_⟩
  obtain ⟨s, e1, e2⟩ := h5 i hi
  exact ⟨s, (hb.cell (p := ⟨kb, i, none⟩) h2).trans e1, e2.below hb⟩
theorem WS.cd {w : World} {cb kb vb base n : Nat} {tv : Value} {a : F} (h : WS w cb kb vb base n tv (tV (ndT a)) (tK (ndT a))) : CD w cb tv n a := by
  obtain ⟨h1, ⟨vc, h2, h3, h4⟩, ⟨kc, h5, h6, h7, h8⟩, b1, b2, b3, d1, d2, d3, hs⟩ := h
  refine ⟨kb, vb, h1, by omega, by omega, fun i hi => (cell_of_blk h2 i).trans (h4 i hi), fun i hi => ?_⟩
  obtain ⟨s, e1, e2⟩ := h7 i hi
  exact ⟨s, (cell_of_blk h5 i).trans e1, IS.ofOwn e2⟩

theorem infoIntS : (Tryz.prog.info? 78).map (fun i => (i.zero, i.size, i.bytes)) = some (some (.slice none 0 0), 1, 24) := by kernel_rfl
theorem mk_ints (n : Nat) (hn : n ≤ 1048576) (w : World) :
    (Instr.makeSlice 78 (.int .i64 (n : Int)) (.int .i64 (n : Int))).run Tryz.prog w = .ok (.slice (some ⟨w.heap.size, 0, none⟩) n n) (w.alloc (.cells (madeCells #[.int .i64 0] n) 3)) := by
  obtain ⟨i, hi, hzz⟩ := Option.map_eq_some_iff.1 infoInt
  simp only [Prod.mk.injEq] at hzz
  obtain ⟨hz, hs, hb⟩ := hzz
  have := run_make (P := Tryz.prog) w 78 3 i _ Tryz.underlying78 hi hz .i64 .i64 n n (by omega) (Int.le_refl _) (by rw [hb]; omega) (by omega)
  rw [hs, show (Value.int .i64 0).cells = #[.int .i64 0] from by simp [Value.cells]] at this
  simpa using this
theorem mk_intss (n : Nat) (hn : n ≤ 1048576) (w : World) :
    (Instr.makeSlice 80 (.int .i64 (n : Int)) (.int .i64 (n : Int))).run Tryz.prog w = .ok (.slice (some ⟨w.heap.size, 0, none⟩) n n) (w.alloc (.cells (madeCells #[.slice none 0 0] n) 78)) := by
  obtain ⟨i, hi, hzz⟩ := Option.map_eq_some_iff.1 infoIntS
  simp only [Prod.mk.injEq] at hzz
  obtain ⟨hz, hs, hb⟩ := hzz
  have := run_make (P := Tryz.prog) w 80 78 i _ Tryz.underlying80 hi hz .i64 .i64 n n (by omega) (Int.le_refl _) (by rw [hb]; omega) (by omega)
  rw [hs, show (Value.slice none 0 0).cells = #[.slice none 0 0] from by simp [Value.cells]] at this
  simpa using this
theorem made_get (v : Value) (n i : Nat) (h : i < n) : (madeCells #[v] n)[i]? = some v := by
  unfold madeCells
  simp [h, Nat.mod_one]
theorem made_size (v : Value) (n : Nat) : (madeCells #[v] n).size = n := by simp [madeCells]

set_option maxRecDepth 20000 in
set_option maxHeartbeats 1000000 in
theorem l6Of_none (ad : Option Addr) (c : Nat) (l : List Cc) (w : World) (hl : l.length ≤ 1048576) (h : CRow w ad l) (hc : closedT l = none) :
    Calls Tryz.prog 18 #[.slice ad l.length c] w fun e w' => e = .returned (.tuple #[.pointer none, .bool false]) ∧ Below w.heap.size w w' := by
  have HC := hide (l3Tree_any ad c l w hl h)
  clear h
  cases hT : treeT l with
  | none =>
    rw [hT] at HC
    clear hT
    go_enter Tryz.func18, Tryz.ntmps18
    go_wp2_with fail
    refine Calls.mono HC.out ?_
    rintro e w1 ⟨hb1, ho⟩
    obtain ⟨k, n, sad, sn, sc, rfl⟩ := ho
    go_wp2_with fail
    exact bodyPost_ret (v := .tuple #[.pointer none, .bool false]) (by simp [results, Tryz.results18, go_sem]) rfl ⟨rfl, hb1.alloc hb1.size _⟩
  | some t =>
    have hne : freT t ≠ [] := by
      intro e
      unfold closedT at hc
      rw [hT] at hc
      simp only at hc
      rw [if_pos e] at hc
      cases hc
    rw [hT] at HC
    have HTT := hide (treeT_flat hT)
    clear hT hc
    go_enter Tryz.func18, Tryz.ntmps18
    go_wp2_with fail
    refine Calls.mono HC.out ?_
    rintro e w1 ⟨hb1, ho⟩
    obtain ⟨x, k, s, rfl, rfl, hK⟩ := ho
    obtain ⟨t1, t2, t3, t4, t5⟩ := HTT.out
    obtain ⟨sad, sc, rfl⟩ := hK.form
    obtain ⟨g1, l1, o1, -⟩ := ok_cons t2
    have hn := good_n g1
    have hkf : k.flat.length ≤ 600 := by rw [t1] at t4; simp [F.flat] at t4; omega
    have HK := hide hK
    have HF := hide (l3Free_any k x (.slice sad k.len sc) (.slice none 0 0) 0 [] (fun g => w.heap.size ≤ g))
    have HO := hide o1
    have HL := hide l1
    rw [show ((0 : Nat) : Int) = 0 from rfl] at HF
    obtain ⟨KL, hKL⟩ : ∃ KL, KL = k.len := ⟨_, rfl⟩
    rw [← hKL] at HF HK HL ⊢
    clear HTT t1 t2 t3 t4 t5 HC hK g1 l1 o1 hKL
    go_wp2_with fail
    refine Calls.mono (HF.out _ hn.1 hn.2 HL.out HO.out (by omega) (by simp; omega) (HK.out.below ((Below.refl _ _).alloc (Nat.le_refl _) _)) (.inl ⟨rfl, rfl⟩)) ?_
    rintro e w2 ⟨s2, rfl, hs2, hb2⟩
    have hB2 : Below w.heap.size w w2 := (hb1.alloc hb1.size _).trans (hb2.mono (by have := hb1.size; simp; omega))
    obtain ⟨pad, pc, rfl⟩ := hs2.form
    have hpos : 0 < (fr1 0 x k []).length := by
      have : fr1 0 x k [] ≠ [] := hne
      cases h : fr1 0 x k [] with
      | nil => exact absurd h this
      | cons _ _ => simp
    obtain ⟨NL, hNL⟩ : ∃ NL, NL = (fr1 0 x k []).length := ⟨_, rfl⟩
    rw [← hNL] at hpos ⊢
    have hpos' : (0 : Int) < (NL : Int) := by omega
    clear hs2 hb2 hNL
    go_wp2_with fail
    exact bodyPost_ret (v := .tuple #[.pointer none, .bool false]) (by simp [results, Tryz.results18, go_sem]) rfl ⟨rfl, hB2⟩

set_option maxRecDepth 20000 in
set_option maxHeartbeats 1000000 in
theorem l6Of_some (ad : Option Addr) (c : Nat) (l : List Cc) (a : F) (w : World) (h : CRow w ad l) (hc : closedT l = some a) :
    Calls Tryz.prog 18 #[.slice ad l.length c] w fun e w' => ∃ cb, e = .returned (.tuple #[.pointer (some ⟨cb, 0, none⟩), .bool true]) ∧ CD w' cb (.slice ad l.length c) l.length a ∧ w.heap.size ≤ cb ∧ Below w.heap.size w w' := by
  obtain ⟨hCl, hT, hfr⟩ := closedT_some hc
  have hle := hCl.le
  have HC := hide (l3Tree_any ad c l w (by omega) h)
  have HR := hide h
  clear h hc
  rw [hT] at HC
  have HTT := hide (treeT_flat hT)
  have mk1 := mk_ints l.length (by omega)
  have mk2 := mk_intss l.length (by omega)
  clear hT
  go_enter Tryz.func18, Tryz.ntmps18
  go_wp2_with fail
  refine Calls.mono HC.out ?_
  rintro e w1 ⟨hb1, ho⟩
  obtain ⟨x, k, s, rfl, rfl, hK⟩ := ho
  obtain ⟨t1, t2, t3, t4, t5⟩ := HTT.out
  obtain ⟨sad, sc, rfl⟩ := hK.form
  obtain ⟨g1, l1, o1, -⟩ := ok_cons t2
  have hn := good_n g1
  have hkf : k.flat.length ≤ 600 := by rw [t1] at t4; simp [F.flat] at t4; omega
  have hkl : 1 + k.flat.length = l.length := by rw [t1]; simp [F.flat]; omega
  have HK := hide hK
  have HF := hide (l3Free_any k x (.slice sad k.len sc) (.slice none 0 0) 0 [] (fun g => w.heap.size ≤ g))
  have HO := hide o1
  have HL := hide l1
  rw [show ((0 : Nat) : Int) = 0 from rfl] at HF
  obtain ⟨KL, hKL⟩ : ∃ KL, KL = k.len := ⟨_, rfl⟩
  rw [← hKL] at HF HK HL ⊢
  clear HTT t1 t2 t3 t4 t5 HC hK g1 l1 o1 hKL
  go_wp2_with fail
  refine Calls.mono (HF.out _ hn.1 hn.2 HL.out HO.out (by omega) (by simp; omega) (HK.out.below ((Below.refl _ _).alloc (Nat.le_refl _) _)) (.inl ⟨rfl, rfl⟩)) ?_
  rintro e w2 ⟨s2, rfl, hs2, hb2⟩
  have hB2 : Below w.heap.size w w2 := (hb1.alloc hb1.size _).trans (hb2.mono (by have := hb1.size; simp; omega))
  obtain ⟨pad, pc, rfl⟩ := hs2.form
  have hfr' : fr1 0 x k [] = [] := hfr
  rw [hfr']
  clear hs2 hb2
  have HCl := hide hCl
  have HW : Hid (∀ (w3 : World) (cb kb vb : Nat), Below w.heap.size w w3 → w.heap.size ≤ cb → w.heap.size ≤ kb → w.heap.size ≤ vb → cb < w3.heap.size → kb < w3.heap.size → vb < w3.heap.size → cb ≠ kb → cb ≠ vb → kb ≠ vb → Bx w3 cb #[.slice ad l.length c, .slice (some ⟨kb, 0, none⟩) l.length l.length, .slice (some ⟨vb, 0, none⟩) l.length l.length] 82 → Bx w3 kb (madeCells #[.slice none 0 0] l.length) 78 → Bx w3 vb (madeCells #[.int .i64 0] l.length) 3 →
      Calls Tryz.prog 41 #[.pointer (some ⟨cb, 0, none⟩), .int .i64 0, .int .i64 0] w3 fun en w' => ∃ r, en = .returned r ∧ CD w' cb (.slice ad l.length c) l.length (.cons x k .nil) ∧ Below w.heap.size w w') := hide (by
    intro w3 cb kb vb hB a1 a2 a3 b1 b2 b3 d1 d2 d3 hX hKB hVB
    have hn0 : (ndT (.cons x k .nil))[0]? = some (x, 0, k) := by simp [ndT, nd, binds_0']
    have hws : WS w3 cb kb vb w3.heap.size l.length (.slice ad l.length c) (fun _ => 0) (fun _ => []) :=
      ⟨hX, ⟨_, hVB, made_size _ _, fun i hi => made_get _ _ _ hi⟩, ⟨_, hKB, made_size _ _, fun i hi => ⟨_, made_get _ _ _ hi, World.ownsRow_nil _ _ _ _⟩, fun i j s s' g hi hj _ hg => by
        have hi' := (Array.getElem?_eq_some_iff.1 hi).1
        rw [made_size] at hi'
        rw [made_get _ _ _ hi'] at hi
        obtain rfl : Value.slice none 0 0 = s := by simpa using hi
        cases hg⟩, b1, b2, b3, d1, d2, d3, Nat.le_refl _⟩
    refine (l6Walk_any w ad c l (.cons x k .nil) cb kb vb w3.heap.size HCl.out HR.out a1 a2 a3 k.flat.length 0 0 x k w3 _ _ hn0 (Nat.le_refl _) hws hB (fun _ _ _ => rfl)).mono ?_
    rintro e w4 ⟨rfl, hW4, hB4⟩
    refine ⟨_, rfl, ?_, hB4⟩
    obtain ⟨h1, ⟨vc, h2, h3, h4⟩, ⟨kc, h5, h6, h7, h8⟩, b1, b2, b3, d1, d2, d3, hs⟩ := hW4
    refine WS.cd ⟨h1, ⟨vc, h2, h3, fun i hi => ?_⟩, ⟨kc, h5, h6, fun i hi => ?_, h8⟩, b1, b2, b3, d1, d2, d3, hs⟩
    · have := h4 i hi
      unfold upd at this
      rw [if_pos (by omega)] at this
      exact this
    · have := h7 i hi
      unfold upd at this
      rw [if_pos (by omega)] at this
      exact this)
  go_wp2_with fail
  have hsz2 := hB2.size
  go_region_with (fail)
  all_goals
    go_wp2_with fail
    first
      | (refine (HW.out _ (w2.heap.size + 1 + 1) w2.heap.size (w2.heap.size + 1) ?b1 (by omega) (by omega) (by omega) (by simp) (by simp; omega) (by simp) (by omega) (by omega) (by omega) ?x1 ?k1 ?v1).mono ?_
         case b1 => exact belowDrew (((hB2.alloc (by omega) _).alloc (by simp; omega) _).alloc (by simp; omega) _)
         case x1 => exact Bx.drew (by have := Bx.new ((w2.alloc (.cells (madeCells #[.slice none 0 0] l.length) 78)).alloc (.cells (madeCells #[.int .i64 0] l.length) 3)) #[.slice ad l.length c, .slice (some ⟨w2.heap.size, 0, none⟩) l.length l.length, .slice (some ⟨w2.heap.size + 1, 0, none⟩) l.length l.length] 82; simpa using this)
         case k1 => exact Bx.drew (((Bx.new w2 _ _).alloc _).alloc _)
         case v1 => exact Bx.drew ((by have := Bx.new (w2.alloc (.cells (madeCells #[.slice none 0 0] l.length) 78)) (madeCells #[.int .i64 0] l.length) 3; simpa using this : Bx ((w2.alloc (.cells (madeCells #[.slice none 0 0] l.length) 78)).alloc (.cells (madeCells #[.int .i64 0] l.length) 3)) (w2.heap.size + 1) _ _).alloc _))
      | (refine (HW.out _ (w2.heap.size + 1 + 1) (w2.heap.size + 1) w2.heap.size ?b1 (by omega) (by omega) (by omega) (by simp) (by simp) (by simp; omega) (by omega) (by omega) (by omega) ?x1 ?k1 ?v1).mono ?_
         case b1 => exact belowDrew (((hB2.alloc (by omega) _).alloc (by simp; omega) _).alloc (by simp; omega) _)
         case x1 => exact Bx.drew (by have := Bx.new ((w2.alloc (.cells (madeCells #[.int .i64 0] l.length) 3)).alloc (.cells (madeCells #[.slice none 0 0] l.length) 78)) #[.slice ad l.length c, .slice (some ⟨w2.heap.size + 1, 0, none⟩) l.length l.length, .slice (some ⟨w2.heap.size, 0, none⟩) l.length l.length] 82; simpa using this)
         case v1 => exact Bx.drew (((Bx.new w2 _ _).alloc _).alloc _)
         case k1 => exact Bx.drew ((by have := Bx.new (w2.alloc (.cells (madeCells #[.int .i64 0] l.length) 3)) (madeCells #[.slice none 0 0] l.length) 78; simpa using this : Bx ((w2.alloc (.cells (madeCells #[.int .i64 0] l.length) 3)).alloc (.cells (madeCells #[.slice none 0 0] l.length) 78)) (w2.heap.size + 1) _ _).alloc _))
    rintro e w4 ⟨r, rfl, hcd, hB4⟩
    clear mk1 mk2
    go_wp2_with fail
    exact bodyPost_ret (v := .tuple #[.pointer (some ⟨w2.heap.size + 1 + 1, 0, none⟩), .bool true]) (by simp [results, Tryz.results18, go_sem]) rfl ⟨_, rfl, hcd, by omega, hB4⟩

/-- Is it a good term without free variables? -/
def closed (l : List Cc) : Bool := (closedT l).isSome
set_option maxHeartbeats 1000000 in
theorem isClosed_any (ad : Option Addr) (c : Nat) (l : List Cc) (w : World) (hl : l.length ≤ 1048576) (hcap : l.length ≤ c) (h : CRow w ad l) :
    Calls Tryz.prog 52 #[.slice ad l.length c] w fun e w' => e = .returned (.bool (closed l)) ∧ Below w.heap.size w w' := by
  cases ht : treeT l with
  | none =>
    have HC := hide (implFreeIn_none ad c l w hl h ht)
    have hcl : closed l = false := by unfold closed closedT; rw [ht]; rfl
    rw [hcl]
    clear h ht hcl
    go_enter Tryz.func52, Tryz.ntmps52
    go_wp2_with fail
    refine HC.out.mono ?_
    rintro e w1 ⟨rfl, hb1⟩
    go_wp2_with fail
    go_ret
    exact ⟨rfl, hb1⟩
  | some a =>
    obtain ⟨t1, t2, t3, t4, -⟩ := treeT_flat ht
    obtain ⟨x, k, rfl⟩ := F.len_1 t3
    have HC := hide (implFreeIn_some ad c l _ w hl hcap h ht x k rfl)
    rw [marked_bits x k t2] at HC
    have hcl : closed l = decide ((fr1 0 x k []).length = 0) := by
      unfold closed closedT
      rw [ht]
      dsimp only
      by_cases hf : fr1 0 x k [] = []
      · rw [if_pos (show freT (.cons x k .nil) = [] from hf), hf]; rfl
      · rw [if_neg (show ¬ freT (.cons x k .nil) = [] from hf), decide_eq_false (fun e => hf (List.eq_nil_of_length_eq_zero e))]; rfl
    rw [hcl]
    obtain ⟨NL, hNL⟩ : ∃ NL, NL = (fr1 0 x k []).length := ⟨_, rfl⟩
    rw [← hNL] at HC ⊢
    clear h ht hcl t1 t2 t3 t4 hNL
    by_cases h0 : NL = 0
    · subst h0
      go_enter Tryz.func52, Tryz.ntmps52
      go_wp2_with fail
      refine HC.out.mono ?_
      rintro e w1 ⟨s', rfl, ho, hb1⟩
      obtain ⟨sa, sc, rfl⟩ := own_form ho
      clear ho
      go_wp2_with fail
      go_ret
      exact ⟨rfl, hb1⟩
    · have h0' : ¬ (NL : Int) = 0 := by omega
      rw [decide_eq_false h0]
      go_enter Tryz.func52, Tryz.ntmps52
      go_wp2_with fail
      refine HC.out.mono ?_
      rintro e w1 ⟨s', rfl, ho, hb1⟩
      obtain ⟨sa, sc, rfl⟩ := own_form ho
      clear ho
      go_wp2_with fail
      go_ret
      exact ⟨ret_bool (by simpa using h0'), hb1⟩

/-- The machine at the beginning, and no machine. -/
def startM : Mc := ⟨false, 0, -1, -1, [], [], []⟩
def zeroM : Mc := ⟨false, 0, 0, 0, [], [], []⟩
theorem MOwn.empty (lo hi : Nat) (w : World) (d : Bool) (p e x : Int) : MOwn lo hi w (.agg #[.bool d, .int .i64 p, .int .i64 e, .int .i64 x, .slice none 0 0, .slice none 0 0, .slice none 0 0]) ⟨d, p, e, x, [], [], []⟩ :=
  ⟨_, _, _, rfl, ⟨World.ownsRow_nil _ _ _ _, fun k hk => by cases hk⟩, ⟨World.ownsRow_nil _ _ _ _, fun k hk => by cases hk⟩, ⟨World.ownsRow_nil _ _ _ _, fun k hk => by cases hk⟩, by simp, by simp, by simp⟩
end Go.Proofs.YtdajalchdbgooaaGreat.W

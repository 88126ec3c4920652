/-
  Some texts of this proof in one: MaO, MaM, MaT.
-/
import Derived.Test.YtnmkbpflbfhpnaaGreatJ18
import Derived.Test.YtnmkbpflbfhpnaaGreatJ19
import Derived.Test.YtnmkbpflbfhpnaaGreatJ17
/-
  Contracts of l6Of (the specification's code of a closed term) and of isClosed, StartMachine of both sides. Conditions: at most 1048576 cells.
-/
namespace Go.Proofs.YtnmkbpflbfhpnaaGreat.W
open Go.ChangeShapes Go.WideShapes Go.ChangeAt Go.RowKit
set_option linter.unusedVariables false

theorem bsc {B : Nat} {a w : World} (h : Below B a w) (b i : Nat) (v : Value) (hb : B ≤ b) : Below B a (w.setCell ⟨b, i, none⟩ v) := h.setCell (p := ⟨b, i, none⟩) hb v
theorem bsc0 {B : Nat} {a w : World} (h : Below B a w) (i : Nat) (v : Value) : Below B a (w.setCell ⟨B, i, none⟩ v) := bsc h B i v (Nat.le_refl _)
/-- A code that is read in memory. -/
structure CD (w : World) (cb : Nat) (tv : Value) (n : Nat) (a : F) : Prop where
  ex : ∃ kb vb, Bx w cb #[tv, .slice (some ⟨kb, 0, none⟩) n n, .slice (some ⟨vb, 0, none⟩) n n] 129 ∧ kb < w.heap.size ∧ vb < w.heap.size ∧ (∀ i, i < n → w.cell? ⟨vb, i, none⟩ = some (.int .i64 (tV (ndT a) i))) ∧ ∀ i, i < n → ∃ s, w.cell? ⟨kb, i, none⟩ = some s ∧ IS w s (tK (ndT a) i)
theorem CD.lt {w : World} {cb n : Nat} {tv : Value} {a : F} (h : CD w cb tv n a) : cb < w.heap.size := by
  obtain ⟨kb, vb, h1, -⟩ := h.ex
  exact h1.lt
theorem CD.below {w w' : World} {cb n : Nat} {tv : Value} {a : F} (h : CD w cb tv n a) (hb : Below w.heap.size w w') : CD w' cb tv n a := by
  obtain ⟨kb, vb, h1, h2, h3, h4, h5⟩ := h.ex
  refine ⟨kb, vb, h1.below hb h1.lt, Nat.lt_of_lt_of_le h2 hb.size, Nat.lt_of_lt_of_le h3 hb.size, fun i hi => (hb.cell (p := ⟨vb, i, none⟩) h3).trans (h4 i hi), fun i hi => ?_⟩
  obtain ⟨s, e1, e2⟩ := h5 i hi
  exact ⟨s, (hb.cell (p := ⟨kb, i, none⟩) h2).trans e1, e2.below hb⟩
theorem WS.cd {w : World} {cb kb vb base n : Nat} {tv : Value} {a : F} (h : WS w cb kb vb base n tv (tV (ndT a)) (tK (ndT a))) : CD w cb tv n a := by
  obtain ⟨h1, ⟨vc, h2, h3, h4⟩, ⟨kc, h5, h6, h7, h8⟩, b1, b2, b3, d1, d2, d3, hs⟩ := h
  refine ⟨kb, vb, h1, by omega, by omega, fun i hi => (cell_of_blk h2 i).trans (h4 i hi), fun i hi => ?_⟩
  obtain ⟨s, e1, e2⟩ := h7 i hi
  exact ⟨s, (cell_of_blk h5 i).trans e1, IS.ofOwn e2⟩

theorem infoIntS : (Tryz.prog.info? 42).map (fun i => (i.zero, i.size, i.bytes)) = some (some (.slice none 0 0), 1, 24) := by kernel_rfl
theorem mk_ints (n : Nat) (hn : n ≤ 1048576) (w : World) :
    (Instr.makeSlice 42 (.int .i64 (n : Int)) (.int .i64 (n : Int))).run Tryz.prog w = .ok (.slice (some ⟨w.heap.size, 0, none⟩) n n) (w.alloc (.cells (madeCells #[.int .i64 0] n) 3)) := by
  obtain ⟨i, hi, hzz⟩ := Option.map_eq_some_iff.1 infoInt
  simp only [Prod.mk.injEq] at hzz
  obtain ⟨hz, hs, hb⟩ := hzz
  have := run_make (P := Tryz.prog) w 42 3 i _ Tryz.underlying42 hi hz .i64 .i64 n n (by omega) (Int.le_refl _) (by rw [hb]; omega) (by omega)
  rw [hs, show (Value.int .i64 0).cells = #[.int .i64 0] from by simp [Value.cells]] at this
  simpa using this
theorem mk_intss (n : Nat) (hn : n ≤ 1048576) (w : World) :
    (Instr.makeSlice 127 (.int .i64 (n : Int)) (.int .i64 (n : Int))).run Tryz.prog w = .ok (.slice (some ⟨w.heap.size, 0, none⟩) n n) (w.alloc (.cells (madeCells #[.slice none 0 0] n) 42)) := by
  obtain ⟨i, hi, hzz⟩ := Option.map_eq_some_iff.1 infoIntS
  simp only [Prod.mk.injEq] at hzz
  obtain ⟨hz, hs, hb⟩ := hzz
  have := run_make (P := Tryz.prog) w 127 42 i _ Tryz.underlying127 hi hz .i64 .i64 n n (by omega) (Int.le_refl _) (by rw [hb]; omega) (by omega)
  rw [hs, show (Value.slice none 0 0).cells = #[.slice none 0 0] from by simp [Value.cells]] at this
  simpa using this
theorem made_get (v : Value) (n i : Nat) (h : i < n) : (madeCells #[v] n)[i]? = some v := by
  unfold madeCells
  simp [h, Nat.mod_one]
theorem made_size (v : Value) (n : Nat) : (madeCells #[v] n).size = n := by simp [madeCells]

set_option maxRecDepth 20000 in
set_option maxHeartbeats 1000000 in
theorem l6Of_none (ad : Option Addr) (c : Nat) (l : List Cc) (w : World) (hl : l.length ≤ 1048576) (h : CRow w ad l) (hc : closedT l = none) :
    Calls Tryz.prog 41 #[.slice ad l.length c] w fun e w' => e = .returned (.tuple #[.pointer none, .bool false]) ∧ Below w.heap.size w w' := by
  have HC := hide (l3Tree_any ad c l w hl h)
  clear h
  cases hT : treeT l with
  | none =>
    rw [hT] at HC
    clear hT
    go_enter Tryz.func41, Tryz.ntmps41
    go_wp2_with fail
    refine Calls.mono HC.out ?_
    rintro e w1 ⟨hb1, ho⟩
    obtain ⟨k, n, sad, sn, sc, rfl⟩ := ho
    go_wp2_with fail
    exact bodyPost_ret (v := .tuple #[.pointer none, .bool false]) (by simp [results, Tryz.results41, go_sem]) rfl ⟨rfl, hb1.alloc hb1.size _⟩
  | some t =>
    have hne : freT t ≠ [] := by
      intro e
      unfold closedT at hc
      rw [hT] at hc
      simp only at hc
      rw [if_pos e] at hc
      cases hc
    rw [hT] at HC
    have HTT := hide (treeT_flat hT)
    clear hT hc
    go_enter Tryz.func41, Tryz.ntmps41
    go_wp2_with fail
    refine Calls.mono HC.out ?_
    rintro e w1 ⟨hb1, ho⟩
    obtain ⟨x, k, s, rfl, rfl, hK⟩ := ho
    obtain ⟨t1, t2, t3, t4, t5⟩ := HTT.out
    obtain ⟨sad, sc, rfl⟩ := hK.form
    obtain ⟨g1, l1, o1, -⟩ := ok_cons t2
    have hn := good_n g1
    have hkf : k.flat.length ≤ 600 := by rw [t1] at t4; simp [F.flat] at t4; omega
    have HK := hide hK
    have HF := hide (l3Free_any k x (.slice sad k.len sc) (.slice none 0 0) 0 [] (fun g => w.heap.size ≤ g))
    have HO := hide o1
    have HL := hide l1
    rw [show ((0 : Nat) : Int) = 0 from rfl] at HF
    obtain ⟨KL, hKL⟩ : ∃ KL, KL = k.len := ⟨_, rfl⟩
    rw [← hKL] at HF HK HL ⊢
    clear HTT t1 t2 t3 t4 t5 HC hK g1 l1 o1 hKL
    go_wp2_with fail
    refine Calls.mono (HF.out _ hn.1 hn.2 HL.out HO.out (by omega) (by simp; omega) (HK.out.below ((Below.refl _ _).alloc (Nat.le_refl _) _)) (.inl ⟨rfl, rfl⟩)) ?_
    rintro e w2 ⟨s2, rfl, hs2, hb2⟩
    have hB2 : Below w.heap.size w w2 := (hb1.alloc hb1.size _).trans (hb2.mono (by have := hb1.size; simp; omega))
    obtain ⟨pad, pc, rfl⟩ := hs2.form
    have hpos : 0 < (fr1 0 x k []).length := by
      have : fr1 0 x k [] ≠ [] := hne
      cases h : fr1 0 x k [] with
      | nil => exact absurd h this
      | cons _ _ => simp
    obtain ⟨NL, hNL⟩ : ∃ NL, NL = (fr1 0 x k []).length := ⟨_, rfl⟩
    rw [← hNL] at hpos ⊢
    have hpos' : (0 : Int) < (NL : Int) := by omega
    clear hs2 hb2 hNL
    go_wp2_with fail
    exact bodyPost_ret (v := .tuple #[.pointer none, .bool false]) (by simp [results, Tryz.results41, go_sem]) rfl ⟨rfl, hB2⟩

set_option maxRecDepth 20000 in
set_option maxHeartbeats 1000000 in
theorem l6Of_some (ad : Option Addr) (c : Nat) (l : List Cc) (a : F) (w : World) (h : CRow w ad l) (hc : closedT l = some a) :
    Calls Tryz.prog 41 #[.slice ad l.length c] w fun e w' => ∃ cb, e = .returned (.tuple #[.pointer (some ⟨cb, 0, none⟩), .bool true]) ∧ CD w' cb (.slice ad l.length c) l.length a ∧ w.heap.size ≤ cb ∧ Below w.heap.size w w' := by
  obtain ⟨hCl, hT, hfr⟩ := closedT_some hc
  have hle := hCl.le
  have HC := hide (l3Tree_any ad c l w (by omega) h)
  have HR := hide h
  clear h hc
  rw [hT] at HC
  have HTT := hide (treeT_flat hT)
  have mk1 := mk_ints l.length (by omega)
  have mk2 := mk_intss l.length (by omega)
  clear hT
  go_enter Tryz.func41, Tryz.ntmps41
  go_wp2_with fail
  refine Calls.mono HC.out ?_
  rintro e w1 ⟨hb1, ho⟩
  obtain ⟨x, k, s, rfl, rfl, hK⟩ := ho
  obtain ⟨t1, t2, t3, t4, t5⟩ := HTT.out
  obtain ⟨sad, sc, rfl⟩ := hK.form
  obtain ⟨g1, l1, o1, -⟩ := ok_cons t2
  have hn := good_n g1
  have hkf : k.flat.length ≤ 600 := by rw [t1] at t4; simp [F.flat] at t4; omega
  have hkl : 1 + k.flat.length = l.length := by rw [t1]; simp [F.flat]; omega
  have HK := hide hK
  have HF := hide (l3Free_any k x (.slice sad k.len sc) (.slice none 0 0) 0 [] (fun g => w.heap.size ≤ g))
  have HO := hide o1
  have HL := hide l1
  rw [show ((0 : Nat) : Int) = 0 from rfl] at HF
  obtain ⟨KL, hKL⟩ : ∃ KL, KL = k.len := ⟨_, rfl⟩
  rw [← hKL] at HF HK HL ⊢
  clear HTT t1 t2 t3 t4 t5 HC hK g1 l1 o1 hKL
  go_wp2_with fail
  refine Calls.mono (HF.out _ hn.1 hn.2 HL.out HO.out (by omega) (by simp; omega) (HK.out.below ((Below.refl _ _).alloc (Nat.le_refl _) _)) (.inl ⟨rfl, rfl⟩)) ?_
  rintro e w2 ⟨s2, rfl, hs2, hb2⟩
  have hB2 : Below w.heap.size w w2 := (hb1.alloc hb1.size _).trans (hb2.mono (by have := hb1.size; simp; omega))
  obtain ⟨pad, pc, rfl⟩ := hs2.form
  have hfr' : fr1 0 x k [] = [] := hfr
  rw [hfr']
  clear hs2 hb2
  have HCl := hide hCl
  have HW : Hid (∀ (w3 : World) (cb kb vb : Nat), Below w.heap.size w w3 → w.heap.size ≤ cb → w.heap.size ≤ kb → w.heap.size ≤ vb → cb < w3.heap.size → kb < w3.heap.size → vb < w3.heap.size → cb ≠ kb → cb ≠ vb → kb ≠ vb → Bx w3 cb #[.slice ad l.length c, .slice (some ⟨kb, 0, none⟩) l.length l.length, .slice (some ⟨vb, 0, none⟩) l.length l.length] 129 → Bx w3 kb (madeCells #[.slice none 0 0] l.length) 42 → Bx w3 vb (madeCells #[.int .i64 0] l.length) 3 →
      Calls Tryz.prog 70 #[.pointer (some ⟨cb, 0, none⟩), .int .i64 0, .int .i64 0] w3 fun en w' => ∃ r, en = .returned r ∧ CD w' cb (.slice ad l.length c) l.length (.cons x k .nil) ∧ Below w.heap.size w w') := hide (by
    intro w3 cb kb vb hB a1 a2 a3 b1 b2 b3 d1 d2 d3 hX hKB hVB
    have hn0 : (ndT (.cons x k .nil))[0]? = some (x, 0, k) := by simp [ndT, nd, binds_0']
    have hws : WS w3 cb kb vb w3.heap.size l.length (.slice ad l.length c) (fun _ => 0) (fun _ => []) :=
      ⟨hX, ⟨_, hVB, made_size _ _, fun i hi => made_get _ _ _ hi⟩, ⟨_, hKB, made_size _ _, fun i hi => ⟨_, made_get _ _ _ hi, World.ownsRow_nil _ _ _ _⟩, fun i j s s' g hi hj _ hg => by
        have hi' := (Array.getElem?_eq_some_iff.1 hi).1
        rw [made_size] at hi'
        rw [made_get _ _ _ hi'] at hi
        obtain rfl : Value.slice none 0 0 = s := by simpa using hi
        cases hg⟩, b1, b2, b3, d1, d2, d3, Nat.le_refl _⟩
    refine (l6Walk_any w ad c l (.cons x k .nil) cb kb vb w3.heap.size HCl.out HR.out a1 a2 a3 k.flat.length 0 0 x k w3 _ _ hn0 (Nat.le_refl _) hws hB (fun _ _ _ => rfl)).mono ?_
    rintro e w4 ⟨rfl, hW4, hB4⟩
    refine ⟨_, rfl, ?_, hB4⟩
    obtain ⟨h1, ⟨vc, h2, h3, h4⟩, ⟨kc, h5, h6, h7, h8⟩, b1, b2, b3, d1, d2, d3, hs⟩ := hW4
    refine WS.cd ⟨h1, ⟨vc, h2, h3, fun i hi => ?_⟩, ⟨kc, h5, h6, fun i hi => ?_, h8⟩, b1, b2, b3, d1, d2, d3, hs⟩
    · have := h4 i hi
      unfold upd at this
      rw [if_pos (by omega)] at this
      exact this
    · have := h7 i hi
      unfold upd at this
      rw [if_pos (by omega)] at this
      exact this)
  go_wp2_with fail
  have hsz2 := hB2.size
  go_region_with (fail)
  all_goals
    go_wp2_with fail
    first
      | (refine (HW.out _ (w2.heap.size + 1 + 1) w2.heap.size (w2.heap.size + 1) ?b1 (by omega) (by omega) (by omega) (by simp) (by simp; omega) (by simp) (by omega) (by omega) (by omega) ?x1 ?k1 ?v1).mono ?_
         case b1 => exact belowDrew (((hB2.alloc (by omega) _).alloc (by simp; omega) _).alloc (by simp; omega) _)
         case x1 => exact Bx.drew (by have := Bx.new ((w2.alloc (.cells (madeCells #[.slice none 0 0] l.length) 42)).alloc (.cells (madeCells #[.int .i64 0] l.length) 3)) #[.slice ad l.length c, .slice (some ⟨w2.heap.size, 0, none⟩) l.length l.length, .slice (some ⟨w2.heap.size + 1, 0, none⟩) l.length l.length] 129; simpa using this)
         case k1 => exact Bx.drew (((Bx.new w2 _ _).alloc _).alloc _)
         case v1 => exact Bx.drew ((by have := Bx.new (w2.alloc (.cells (madeCells #[.slice none 0 0] l.length) 42)) (madeCells #[.int .i64 0] l.length) 3; simpa using this : Bx ((w2.alloc (.cells (madeCells #[.slice none 0 0] l.length) 42)).alloc (.cells (madeCells #[.int .i64 0] l.length) 3)) (w2.heap.size + 1) _ _).alloc _))
      | (refine (HW.out _ (w2.heap.size + 1 + 1) (w2.heap.size + 1) w2.heap.size ?b1 (by omega) (by omega) (by omega) (by simp) (by simp) (by simp; omega) (by omega) (by omega) (by omega) ?x1 ?k1 ?v1).mono ?_
         case b1 => exact belowDrew (((hB2.alloc (by omega) _).alloc (by simp; omega) _).alloc (by simp; omega) _)
         case x1 => exact Bx.drew (by have := Bx.new ((w2.alloc (.cells (madeCells #[.int .i64 0] l.length) 3)).alloc (.cells (madeCells #[.slice none 0 0] l.length) 42)) #[.slice ad l.length c, .slice (some ⟨w2.heap.size + 1, 0, none⟩) l.length l.length, .slice (some ⟨w2.heap.size, 0, none⟩) l.length l.length] 129; simpa using this)
         case v1 => exact Bx.drew (((Bx.new w2 _ _).alloc _).alloc _)
         case k1 => exact Bx.drew ((by have := Bx.new (w2.alloc (.cells (madeCells #[.int .i64 0] l.length) 3)) (madeCells #[.slice none 0 0] l.length) 42; simpa using this : Bx ((w2.alloc (.cells (madeCells #[.int .i64 0] l.length) 3)).alloc (.cells (madeCells #[.slice none 0 0] l.length) 42)) (w2.heap.size + 1) _ _).alloc _))
    rintro e w4 ⟨r, rfl, hcd, hB4⟩
    clear mk1 mk2
    go_wp2_with fail
    exact bodyPost_ret (v := .tuple #[.pointer (some ⟨w2.heap.size + 1 + 1, 0, none⟩), .bool true]) (by simp [results, Tryz.results41, go_sem]) rfl ⟨_, rfl, hcd, by omega, hB4⟩

/-- The machine at the beginning, and no machine. -/
def startM : Mc := ⟨false, 0, -1, -1, [], [], []⟩
def zeroM : Mc := ⟨false, 0, 0, 0, [], [], []⟩
theorem MOwn.empty (lo hi : Nat) (w : World) (d : Bool) (p e x : Int) : MOwn lo hi w (.agg #[.bool d, .int .i64 p, .int .i64 e, .int .i64 x, .slice none 0 0, .slice none 0 0, .slice none 0 0]) ⟨d, p, e, x, [], [], []⟩ :=
  ⟨_, _, _, rfl, ⟨World.ownsRow_nil _ _ _ _, fun k hk => by cases hk⟩, ⟨World.ownsRow_nil _ _ _ _, fun k hk => by cases hk⟩, ⟨World.ownsRow_nil _ _ _ _, fun k hk => by cases hk⟩, by simp, by simp, by simp⟩

set_option maxHeartbeats 1000000 in
theorem l6Start_any (w : World) :
    Calls Tryz.prog 71 #[] w fun e w' => e = .returned (.agg #[.bool false, .int .i64 0, .int .i64 (-1), .int .i64 (-1), .slice none 0 0, .slice none 0 0, .slice none 0 0]) ∧ Below w.heap.size w w' := by
  go_enter Tryz.func71, Tryz.ntmps71
  go_wp2_with fail
  exact bodyPost_ret (v := .agg #[.bool false, .int .i64 0, .int .i64 (-1), .int .i64 (-1), .slice none 0 0, .slice none 0 0, .slice none 0 0]) (by simp [results, Tryz.results71, go_sem]) rfl ⟨rfl, (Below.refl _ _).alloc (Nat.le_refl _) _⟩

def stM (l : List Cc) : Mc := if closed l = true then startM else zeroM

set_option maxHeartbeats 1000000 in
theorem implStart_any (ad : Option Addr) (c : Nat) (l : List Cc) (w : World) (hl : l.length ≤ 1048576) (hcap : l.length ≤ c) (h : CRow w ad l) :
    Calls Tryz.prog 22 #[.slice ad l.length c] w fun e w' => e = .returned (.tuple #[(.agg #[.bool false, .int .i64 0, .int .i64 (if closed l = true then -1 else 0), .int .i64 (if closed l = true then -1 else 0), .slice none 0 0, .slice none 0 0, .slice none 0 0]), .bool (closed l)]) ∧ Below w.heap.size w w' := by
  have HC := hide (fun (w' : World) (hb : Below w.heap.size w w') => isClosed_any ad c l w' hl hcap (h.below hb))
  clear h
  cases hc : closed l with
  | false =>
    rw [hc] at HC
    clear hc
    go_enter Tryz.func22, Tryz.ntmps22
    go_wp2_with fail
    refine (HC.out _ ((Below.refl _ _).alloc (Nat.le_refl _) _)).mono ?_
    rintro e w1 ⟨rfl, hb1⟩
    have hB1 : Below w.heap.size w w1 := ((Below.refl _ _).alloc (Nat.le_refl _) _).trans (hb1.mono (by simp))
    have hX := (Bx.new w _ _).below hb1 (by simp)
    have hcx := hX.c
    have hfx := hX.f
    have hxl := hX.lt
    clear hb1 hX
    go_wp2_with fail
    refine bodyPost_ret (v := .tuple #[.agg #[.bool false, .int .i64 0, .int .i64 0, .int .i64 0, .slice none 0 0, .slice none 0 0, .slice none 0 0], .bool false]) (by simp [results, Tryz.results22, go_sem, hcx]) rfl ⟨rfl, ?_⟩
    (repeat (with_reducible refine bsc0 ?_ _ _))
    exact hB1
  | true =>
    rw [hc] at HC
    clear hc
    go_enter Tryz.func22, Tryz.ntmps22
    go_wp2_with fail
    refine (HC.out _ ((Below.refl _ _).alloc (Nat.le_refl _) _)).mono ?_
    rintro e w1 ⟨rfl, hb1⟩
    have hB1 : Below w.heap.size w w1 := ((Below.refl _ _).alloc (Nat.le_refl _) _).trans (hb1.mono (by simp))
    have hX := (Bx.new w _ _).below hb1 (by simp)
    have hcx := hX.c
    have hfx := hX.f
    have hxl := hX.lt
    clear hb1 hX
    go_wp2_with fail
    refine bodyPost_ret (v := .tuple #[.agg #[.bool false, .int .i64 0, .int .i64 (-1), .int .i64 (-1), .slice none 0 0, .slice none 0 0, .slice none 0 0], .bool true]) (by simp [results, Tryz.results22, go_sem, hcx]) rfl ⟨rfl, ?_⟩
    (repeat (with_reducible refine bsc0 ?_ _ _))
    exact hB1
theorem implStart_own (ad : Option Addr) (c : Nat) (l : List Cc) (w : World) (hl : l.length ≤ 1048576) (hcap : l.length ≤ c) (h : CRow w ad l) :
    Calls Tryz.prog 22 #[.slice ad l.length c] w fun e w' => ∃ v, e = .returned (.tuple #[v, .bool (closed l)]) ∧ MOwn w.heap.size w'.heap.size w' v (stM l) ∧ Below w.heap.size w w' := by
  refine (implStart_any ad c l w hl hcap h).mono fun e w' ⟨he, hb⟩ => ⟨_, he, ?_, hb⟩
  unfold stM
  cases closed l with
  | false => exact MOwn.empty _ _ _ _ _ _ _
  | true => exact MOwn.empty _ _ _ _ _ _ _
end Go.Proofs.YtnmkbpflbfhpnaaGreat.W

/-
  The model of good machines: bindings from one on, parts that may be done, values, frames. No program here.
-/
namespace Go.Proofs.YtnmkbpflbfhpnaaGreat.W
set_option linter.unusedVariables false

def blw (n c : Int) : Bool := decide (0 ≤ n) && decide (n < c)
theorem blw_iff {n c : Int} : blw n c = true ↔ 0 ≤ n ∧ n < c := by unfold blw; simp
theorem blw_not {n c : Int} : blw n c = false ↔ n < 0 ∨ c ≤ n := by
  unfold blw
  rw [Bool.and_eq_false_iff]
  simp
/-- Each thing of a list, with its number, is so. -/
def allI {α : Type} (p : Nat → α → Bool) : Nat → List α → Bool
  | _, [] => true
  | i, x :: l => p i x && allI p (i + 1) l
theorem allI_at {α : Type} (p : Nat → α → Bool) : ∀ (l : List α) (i j : Nat) (h : j < l.length), allI p i l = true → p (i + j) l[j] = true
  | [], i, j, h, _ => by simp at h
  | x :: l, i, 0, h, ha => by
    simp only [allI, Bool.and_eq_true] at ha
    exact ha.1
  | x :: l, i, j + 1, h, ha => by
    simp only [allI, Bool.and_eq_true] at ha
    have := allI_at p l (i + 1) j (by simpa using h) ha.2
    rw [show i + 1 + j = i + (j + 1) by omega] at this
    simpa using this
theorem allI_bad {α : Type} (p : Nat → α → Bool) : ∀ (l : List α) (i j : Nat) (h : j < l.length), p (i + j) l[j] = false → allI p i l = false
  | [], i, j, h, _ => by simp at h
  | x :: l, i, 0, h, ha => by
    have ha' : p i x = false := ha
    simp only [allI, ha', Bool.false_and]
  | x :: l, i, j + 1, h, ha => by
    have := allI_bad p l (i + 1) j (by simpa using h) (by rw [show i + 1 + j = i + (j + 1) by omega]; simpa using ha)
    simp only [allI, this, Bool.and_false]
theorem allI_all {α : Type} (p : Nat → α → Bool) : ∀ (l : List α) (i : Nat), (∀ j (h : j < l.length), p (i + j) l[j] = true) → allI p i l = true
  | [], i, _ => rfl
  | x :: l, i, h => by
    simp only [allI, Bool.and_eq_true]
    refine ⟨h 0 (by simp), allI_all p l (i + 1) (fun j hj => ?_)⟩
    have := h (j + 1) (by simpa using hj)
    rw [show i + 1 + j = i + (j + 1) by omega]
    simpa using this

/-- A binding is good. -/
def bOk (nv i : Nat) (b : Bd) : Bool := blw b.val nv && (decide (b.up = -1) || blw b.up i)
theorem bOk_iff {nv i : Nat} {b : Bd} : bOk nv i b = true ↔ 0 ≤ b.val ∧ b.val < nv ∧ -1 ≤ b.up ∧ b.up < i := by
  unfold bOk
  rw [Bool.and_eq_true, Bool.or_eq_true, blw_iff, blw_iff, decide_eq_true_iff]
  omega
def bsOk (nv : Nat) (bs : List Bd) : Bool := allI (bOk nv) 0 bs
theorem bsOk_at {nv : Nat} {bs : List Bd} (h : bsOk nv bs = true) {i : Nat} (hi : i < bs.length) : 0 ≤ bs[i].val ∧ bs[i].val < nv ∧ -1 ≤ bs[i].up ∧ bs[i].up < i := by
  have := allI_at _ bs 0 i hi h
  rw [Nat.zero_add] at this
  exact bOk_iff.1 this

/-- How many bindings there are from one on, and the greatest number of their values. -/
def bwF (bs : List Bd) : Nat → Int → Int × Int
  | 0, _ => (0, -1)
  | f + 1, e => if e < 0 then (0, -1) else match bs[e.toNat]? with | none => (0, -1) | some b => ((bwF bs f b.up).1 + 1, max (bwF bs f b.up).2 b.val)
def bw (bs : List Bd) (e : Int) : Int × Int := bwF bs (e.toNat + 1) e
theorem bwF_neg (bs : List Bd) (f : Nat) (e : Int) (h : e < 0) : bwF bs f e = (0, -1) := by
  cases f with
  | zero => rfl
  | succ f => rw [bwF, if_pos h]
theorem bwF_fuel {nv : Nat} {bs : List Bd} (h : bsOk nv bs = true) : ∀ (f g : Nat) (e : Int), e < f → e < g → bwF bs f e = bwF bs g e
  | 0, g, e, hf, hg => by rw [bwF_neg _ _ _ (by omega), bwF_neg _ _ _ (by omega)]
  | f + 1, 0, e, hf, hg => by rw [bwF_neg _ _ _ (by omega), bwF_neg _ _ _ (by omega)]
  | f + 1, g + 1, e, hf, hg => by
    unfold bwF
    by_cases he : e < 0
    · rw [if_pos he, if_pos he]
    · rw [if_neg he, if_neg he]
      cases hb : bs[e.toNat]? with
      | none => rfl
      | some b =>
        obtain ⟨hi, hbe⟩ := List.getElem?_eq_some_iff.1 hb
        have := bsOk_at h hi
        rw [hbe] at this
        simp only
        rw [bwF_fuel h f g b.up (by omega) (by omega)]
theorem bw_neg (bs : List Bd) (e : Int) (h : e < 0) : bw bs e = (0, -1) := bwF_neg _ _ _ h
theorem bw_step {nv : Nat} {bs : List Bd} (h : bsOk nv bs = true) {i : Nat} (hi : i < bs.length) : bw bs (i : Int) = ((bw bs bs[i].up).1 + 1, max (bw bs bs[i].up).2 bs[i].val) := by
  have hb : bs[i]? = some bs[i] := List.getElem?_eq_getElem hi
  have := bsOk_at h hi
  unfold bw
  rw [Int.toNat_natCast, bwF, if_neg (by omega), Int.toNat_natCast, hb]
  simp only
  rw [bwF_fuel h i (bs[i].up.toNat + 1) bs[i].up (by omega) (by omega)]
theorem bw_bound {nv : Nat} {bs : List Bd} (h : bsOk nv bs = true) : ∀ (f : Nat) (e : Int), -1 ≤ e → e < f → e < bs.length → 0 ≤ (bw bs e).1 ∧ (bw bs e).1 ≤ e + 1 ∧ -1 ≤ (bw bs e).2 ∧ (bw bs e).2 < max nv 0
  | 0, e, h1, hf, hl => by rw [bw_neg _ _ (by omega)]; simp; omega
  | f + 1, e, h0, hf, hl => by
    by_cases he : e < 0
    · rw [bw_neg _ _ he]; simp; omega
    · obtain ⟨i, rfl⟩ := Int.eq_ofNat_of_zero_le (Int.not_lt.1 he)
      have hi : i < bs.length := by omega
      have h1 := bsOk_at h hi
      have := bw_bound h f bs[i].up (by omega) (by omega) (by omega)
      rw [bw_step h hi]
      simp only
      omega

/-- The rows of bindings as they are made. -/
def brow (bs : List Bd) : Nat → List (Int × Int)
  | 0 => [(0, -1)]
  | i + 1 => match bs[i]? with
    | none => brow bs i
    | some b => brow bs i ++ [(((brow bs i).getD (b.up + 1).toNat (0, -1)).1 + 1, max ((brow bs i).getD (b.up + 1).toNat (0, -1)).2 b.val)]
theorem brow_succ (bs : List Bd) (i : Nat) (hi : i < bs.length) : brow bs (i + 1) = brow bs i ++ [(((brow bs i).getD (bs[i].up + 1).toNat (0, -1)).1 + 1, max ((brow bs i).getD (bs[i].up + 1).toNat (0, -1)).2 bs[i].val)] := by
  rw [brow, List.getElem?_eq_getElem hi]
theorem brow_len (bs : List Bd) : ∀ i, i ≤ bs.length → (brow bs i).length = i + 1
  | 0, _ => rfl
  | i + 1, h => by rw [brow_succ bs i (by omega), List.length_append, brow_len bs i (by omega)]; rfl
theorem brow_le (bs : List Bd) : ∀ i, i ≤ bs.length → ∀ j (h : j < (brow bs i).length), 0 ≤ (brow bs i)[j].1 ∧ (brow bs i)[j].1 ≤ i
  | 0, _, j, h => by
    have : j = 0 := by simp [brow] at h; exact h
    subst this; simp [brow]
  | i + 1, hi, j, h => by
    have ih := brow_le bs i (by omega)
    have hl := brow_len bs i (by omega)
    simp only [brow_succ bs i (by omega)] at h ⊢
    by_cases hj : j < (brow bs i).length
    · rw [List.getElem_append_left hj]; have := ih j hj; omega
    · rw [List.getElem_append_right (by omega)]
      simp only [List.getElem_singleton]
      rw [List.getD_eq_getElem?_getD]
      cases hq : (brow bs i)[(bs[i].up + 1).toNat]? with
      | none => simp; omega
      | some q =>
        obtain ⟨h1, h2⟩ := List.getElem?_eq_some_iff.1 hq
        have := ih _ h1
        rw [h2] at this
        simp; omega
theorem brow_bw {nv : Nat} {bs : List Bd} (h : bsOk nv bs = true) : ∀ i, i ≤ bs.length → ∀ (e : Int), -1 ≤ e → e < i → (brow bs i)[(e + 1).toNat]? = some (bw bs e)
  | 0, _, e, h1, h2 => by
    obtain rfl : e = -1 := by omega
    rw [bw_neg _ _ (by omega)]; rfl
  | i + 1, hi, e, h1, h2 => by
    have hl := brow_len bs i (by omega)
    rw [brow_succ bs i (by omega)]
    by_cases he : e < i
    · rw [List.getElem?_append_left (by omega)]
      exact brow_bw h i (by omega) e h1 he
    · obtain rfl : e = i := by omega
      have hb := bsOk_at h (show i < bs.length by omega)
      rw [List.getElem?_append_right (by omega), show ((i : Int) + 1).toNat - (brow bs i).length = 0 by omega, List.getElem?_cons_zero, bw_step h (by omega), List.getD_eq_getElem?_getD, brow_bw h i (by omega) bs[i].up (by omega) (by omega)]
      rfl

/-- A part that may be done. -/
def pOk (a : F) (n : Nat) (bs : List Bd) (p e : Int) : Bool := blw p n && (decide (e = -1) || blw e bs.length) && decide ((bw bs e).1 = tV (ndT a) p.toNat)
theorem pOk_iff {a : F} {n : Nat} {bs : List Bd} {p e : Int} : pOk a n bs p e = true ↔ (0 ≤ p ∧ p < n) ∧ (-1 ≤ e ∧ e < bs.length) ∧ (bw bs e).1 = tV (ndT a) p.toNat := by
  unfold pOk
  rw [Bool.and_eq_true, Bool.and_eq_true, Bool.or_eq_true, blw_iff, blw_iff, decide_eq_true_iff, decide_eq_true_iff]
  omega
/-- The kind of the part at a place. -/
def kAt (l : List Cc) (p : Int) : Int := match l[p.toNat]? with | some x => x.k | none => 0
def vOk (a : F) (l : List Cc) (bs : List Bd) (i : Nat) (v : Vl) : Bool :=
  if v.fn = true then decide (v.num = 0) && pOk a l.length bs v.pl v.env && decide (kAt l v.pl = 3) && decide ((bw bs v.env).2 < (i : Int))
  else inB v.num (-1000000) 1000000 && decide (v.pl = 0) && decide (v.env = 0)
def fOk (a : F) (l : List Cc) (bs : List Bd) (nv : Nat) (f : Fm) : Bool :=
  pOk a l.length bs f.pl f.env && decide (kAt l f.pl = f.k) && (if f.k = 4 ∨ f.k = 5 then decide (f.val = -1) || blw f.val nv else decide (f.k = 6 ∨ f.k = 7) && decide (f.val = -1))
def nOk (a : F) (l : List Cc) (m : Mc) : Bool :=
  if m.done = true then decide (m.pl = -1) && decide (m.env = -1) && blw m.val m.vs.length else decide (m.val = -1) && pOk a l.length m.bs m.pl m.env
/-- A good machine of a closed term. -/
def gM (a : F) (l : List Cc) (m : Mc) : Bool :=
  decide (m.fs.length ≤ 500 ∧ m.vs.length ≤ 500 ∧ m.bs.length ≤ 500) && (bsOk m.vs.length m.bs && (allI (vOk a l m.bs) 0 m.vs && (allI (fun _ f => fOk a l m.bs m.vs.length f) 0 m.fs && nOk a l m)))
def goodM (l : List Cc) (m : Mc) : Bool := match closedT l with | some a => gM a l m | none => false
end Go.Proofs.YtnmkbpflbfhpnaaGreat.W

/-
  The model of a machine's step: what is told, what is kept good. No program here.
-/
namespace Go.Proofs.YtnmkbpflbfhpnaaGreat.W
set_option linter.unusedVariables false

/-- The place of a kid. -/
def kp (a : F) (p : Int) (j : Nat) : Int := match (ndT a)[p.toNat]? with | some (_, _, k) => p + 1 + (ko k j : Nat) | none => 0
/-- The value of the variable so far out. -/
def lkB (bs : List Bd) : Nat → Int → Int
  | 0, e => match bs[e.toNat]? with | some b => b.val | none => 0
  | n + 1, e => match bs[e.toNat]? with | some b => lkB bs n b.up | none => 0
def vlAt (m : Mc) (i : Int) : Vl := m.vs.getD i.toNat ⟨false, 0, 0, 0⟩
def comeM (m : Mc) (v : Int) : Mc := { m with done := true, pl := -1, env := -1, val := v }
def nextM (m : Mc) (p e : Int) : Mc := { m with done := false, pl := p, env := e, val := -1 }
def newM (m : Mc) (v : Vl) : Mc ⊕ Int := if 500 ≤ m.vs.length then .inr 5 else .inl (comeM { m with vs := m.vs ++ [v] } m.vs.length)
def bindM (m : Mc) (up p : Int) : Mc ⊕ Int := if 500 ≤ m.bs.length then .inr 5 else .inl (nextM { m with fs := m.fs.dropLast, bs := m.bs ++ [⟨m.val, up⟩] } p m.bs.length)
def doM (a : F) (l : List Cc) (m : Mc) : Mc ⊕ Int :=
  match l[m.pl.toNat]? with
  | none => .inr 0
  | some x =>
    if x.k = 1 then .inl (comeM m (lkB m.bs x.n.toNat m.env))
    else if x.k = 2 then newM m ⟨false, x.n, 0, 0⟩
    else if x.k = 3 then newM m ⟨true, 0, m.pl, m.env⟩
    else if 500 ≤ m.fs.length then .inr 5
    else .inl (nextM { m with fs := m.fs ++ [⟨x.k, m.pl, m.env, -1⟩] } (kp a m.pl 0) m.env)
def goM (a : F) (l : List Cc) (m : Mc) (f : Fm) : Mc ⊕ Int :=
  if f.k = 6 then (if (vlAt m m.val).fn = true then .inr 3 else .inl (nextM { m with fs := m.fs.dropLast } (kp a f.pl (if (vlAt m m.val).num = 0 then 1 else 2)) f.env))
  else if f.k = 7 then bindM m f.env (kp a f.pl 1)
  else if f.val = -1 then .inl (nextM { m with fs := m.fs.dropLast ++ [{ f with val := m.val }] } (kp a f.pl 1) f.env)
  else if f.k = 4 then (if (vlAt m f.val).fn = true then bindM m (vlAt m f.val).env (kp a (vlAt m f.val).pl 0) else .inr 3)
  else if (vlAt m f.val).fn = true ∨ (vlAt m m.val).fn = true ∨ inB ((vlAt m f.val).num + (vlAt m m.val).num) (-1000000) 1000000 = false then .inr 3
  else newM { m with fs := m.fs.dropLast } ⟨false, (vlAt m f.val).num + (vlAt m m.val).num, 0, 0⟩
def stepM (a : F) (l : List Cc) (m : Mc) : Mc ⊕ Int :=
  if m.done = true then (match m.fs.getLast? with | some f => goM a l m f | none => .inr (if (vlAt m m.val).fn = true then 2 else 1)) else doM a l m

theorem mem_drop {α : Type} {l : List α} {x : α} (h : x ∈ l.dropLast) : x ∈ l := List.dropLast_subset l h
/-- A good machine, in words. -/
structure GM (a : F) (l : List Cc) (m : Mc) : Prop where
  nf : m.fs.length ≤ 500
  nv : m.vs.length ≤ 500
  nb : m.bs.length ≤ 500
  bs : bsOk m.vs.length m.bs = true
  vs : ∀ i (h : i < m.vs.length), vOk a l m.bs i m.vs[i] = true
  fs : ∀ f ∈ m.fs, fOk a l m.bs m.vs.length f = true
  now : nOk a l m = true
theorem gM_iff {a : F} {l : List Cc} {m : Mc} : gM a l m = true ↔ GM a l m := by
  unfold gM
  simp only [Bool.and_eq_true, decide_eq_true_iff]
  constructor
  · rintro ⟨⟨h1, h2, h3⟩, h4, h5, h6, h7⟩
    refine ⟨h1, h2, h3, h4, fun i hi => ?_, fun f hf => ?_, h7⟩
    · have := allI_at _ m.vs 0 i hi h5
      rwa [Nat.zero_add] at this
    · obtain ⟨j, hj, rfl⟩ := List.getElem_of_mem hf
      exact allI_at _ m.fs 0 j hj h6
  · intro h
    exact ⟨⟨h.nf, h.nv, h.nb⟩, h.bs, allI_all _ _ _ (fun j hj => by rw [Nat.zero_add]; exact h.vs j hj), allI_all _ _ _ (fun j hj => h.fs _ (List.getElem_mem hj)), h.now⟩

theorem bsOk_snoc {nv nv' : Nat} {bs : List Bd} (h : bsOk nv bs = true) (hn : nv ≤ nv') : bsOk nv' bs = true := by
  refine allI_all _ _ _ (fun j hj => ?_)
  have := bsOk_at h hj
  rw [Nat.zero_add]
  exact bOk_iff.2 (by omega)
theorem bsOk_more {nv : Nat} {bs : List Bd} {b : Bd} (h : bsOk nv bs = true) (hb : bOk nv bs.length b = true) : bsOk nv (bs ++ [b]) = true := by
  refine allI_all _ _ _ (fun j hj => ?_)
  rw [Nat.zero_add]
  by_cases hlt : j < bs.length
  · rw [List.getElem_append_left hlt]
    have := allI_at _ bs 0 j hlt h
    rwa [Nat.zero_add] at this
  · have : j = bs.length := by simp at hj; omega
    subst this
    rw [List.getElem_append_right (Nat.le_refl _)]
    simpa using hb
theorem bwF_more {nv : Nat} {bs : List Bd} {b : Bd} (h : bsOk nv bs = true) : ∀ (f : Nat) (e : Int), e < bs.length → bwF (bs ++ [b]) f e = bwF bs f e
  | 0, _, _ => rfl
  | f + 1, e, he => by
    unfold bwF
    by_cases hn : e < 0
    · rw [if_pos hn, if_pos hn]
    · rw [if_neg hn, if_neg hn]
      have hlt : e.toNat < bs.length := by omega
      rw [List.getElem?_append_left hlt, List.getElem?_eq_getElem hlt]
      have := bsOk_at h hlt
      simp only
      rw [bwF_more h f _ (by omega)]
theorem bw_more {nv : Nat} {bs : List Bd} {b : Bd} (h : bsOk nv bs = true) (e : Int) (he : e < bs.length) : bw (bs ++ [b]) e = bw bs e := bwF_more h _ e he
theorem pOk_more {a : F} {n nv : Nat} {bs : List Bd} {b : Bd} (h : bsOk nv bs = true) {p e : Int} (hp : pOk a n bs p e = true) : pOk a n (bs ++ [b]) p e = true := by
  rw [pOk_iff] at hp ⊢
  obtain ⟨h1, h2, h3⟩ := hp
  rw [bw_more h e h2.2]
  refine ⟨h1, ⟨h2.1, ?_⟩, h3⟩
  simp; omega
theorem vOk_more {a : F} {l : List Cc} {nv : Nat} {bs : List Bd} {b : Bd} (h : bsOk nv bs = true) {i : Nat} {v : Vl} (hv : vOk a l bs i v = true) : vOk a l (bs ++ [b]) i v = true := by
  unfold vOk at hv ⊢
  by_cases hf : v.fn = true
  · rw [if_pos hf] at hv ⊢
    simp only [Bool.and_eq_true] at hv ⊢
    obtain ⟨⟨⟨h1, h2⟩, h3⟩, h4⟩ := hv
    have := (pOk_iff.1 h2).2.1.2
    rw [bw_more h _ this]
    exact ⟨⟨⟨h1, pOk_more h h2⟩, h3⟩, h4⟩
  · rw [if_neg hf] at hv ⊢; exact hv
theorem fOk_more {a : F} {l : List Cc} {nv : Nat} {bs : List Bd} {b : Bd} (h : bsOk nv bs = true) {f : Fm} (hv : fOk a l bs nv f = true) : fOk a l (bs ++ [b]) nv f = true := by
  unfold fOk at hv ⊢
  simp only [Bool.and_eq_true] at hv ⊢
  exact ⟨⟨pOk_more h hv.1.1, hv.1.2⟩, hv.2⟩
theorem blw_mono {n : Int} {c c' : Nat} (h : blw n c = true) (hc : c ≤ c') : blw n c' = true := by rw [blw_iff] at h ⊢; omega
theorem fOk_nv {a : F} {l : List Cc} {nv nv' : Nat} {bs : List Bd} (hn : nv ≤ nv') {f : Fm} (hv : fOk a l bs nv f = true) : fOk a l bs nv' f = true := by
  unfold fOk at hv ⊢
  rw [Bool.and_eq_true] at hv ⊢
  refine ⟨hv.1, ?_⟩
  by_cases hk : f.k = 4 ∨ f.k = 5
  · rw [if_pos hk] at *
    have := hv.2
    rw [Bool.or_eq_true] at this ⊢
    exact this.imp id (fun h => blw_mono h hn)
  · rw [if_neg hk] at *; exact hv.2

/-- What is at a place that may be done. -/
theorem Cl.part {l : List Cc} {a : F} (h : Cl l a) {p : Int} (hp : 0 ≤ p ∧ p < l.length) : ∃ x e k, (ndT a)[p.toNat]? = some (x, e, k) ∧ l[p.toNat]? = some x ∧ tV (ndT a) p.toNat = (e : Int) ∧ kAt l p = x.k ∧ goodC x = true ∧ k.len = ar x.k ∧ e ≤ 600 := by
  have hlt : p.toNat < l.length := by omega
  obtain ⟨e, k, hn⟩ := h.at hlt
  obtain ⟨g1, g2, g3, g4⟩ := h.good hn
  refine ⟨_, e, k, hn, List.getElem?_eq_getElem hlt, ?_, ?_, g1, g2, g4⟩
  · unfold tV; rw [hn]
  · unfold kAt; rw [List.getElem?_eq_getElem hlt]
/-- A kid may be done, with what is bound to it. -/
theorem Cl.kpOk {l : List Cc} {a : F} (h : Cl l a) {p : Int} (hp : 0 ≤ p ∧ p < l.length) {x : Cc} {e : Nat} {k : F} (hn : (ndT a)[p.toNat]? = some (x, e, k)) {j : Nat} (hj : j < ar x.k) :
    0 ≤ kp a p j ∧ kp a p j < l.length ∧ tV (ndT a) (kp a p j).toNat = ((e + binds x.k j : Nat) : Int) := by
  obtain ⟨y, m, hy, hk⟩ := h.kid hn hj
  obtain ⟨hlt, -⟩ := h.cell hk
  have hkp : kp a p j = p + 1 + (ko k j : Nat) := by unfold kp; rw [hn]
  have ht : (kp a p j).toNat = p.toNat + 1 + ko k j := by rw [hkp]; omega
  refine ⟨by rw [hkp]; omega, by rw [hkp]; omega, ?_⟩
  rw [ht]
  unfold tV
  rw [hk]

theorem lkB_ok {nv : Nat} {bs : List Bd} (h : bsOk nv bs = true) : ∀ (n : Nat) (e : Int), e < bs.length → (n : Int) < (bw bs e).1 → 0 ≤ lkB bs n e ∧ lkB bs n e < nv ∧ 0 ≤ e
  | 0, e, he, hn => by
    by_cases hneg : e < 0
    · rw [bw_neg _ _ hneg] at hn; simp at hn
    · have hlt : e.toNat < bs.length := by omega
      have := bsOk_at h hlt
      unfold lkB
      rw [List.getElem?_eq_getElem hlt]
      simp only
      omega
  | n + 1, e, he, hn => by
    by_cases hneg : e < 0
    · rw [bw_neg _ _ hneg] at hn; simp at hn; omega
    · have hlt : e.toNat < bs.length := by omega
      have hb := bsOk_at h hlt
      unfold lkB
      rw [List.getElem?_eq_getElem hlt]
      simp only
      have hs := bw_step h hlt
      rw [Int.toNat_of_nonneg (by omega)] at hs
      rw [hs] at hn
      simp only at hn
      have := lkB_ok h n bs[e.toNat].up (by omega) (by omega)
      omega

theorem inB_iff {n lo hi : Int} : inB n lo hi = true ↔ lo ≤ n ∧ n ≤ hi := by unfold inB; simp
theorem vlAt_ok {a : F} {l : List Cc} {m : Mc} (h : GM a l m) {i : Int} (hi : 0 ≤ i ∧ i < m.vs.length) : ∃ hlt : i.toNat < m.vs.length, vlAt m i = m.vs[i.toNat] ∧ vOk a l m.bs i.toNat (vlAt m i) = true := by
  have hlt : i.toNat < m.vs.length := by omega
  have e : vlAt m i = m.vs[i.toNat] := by unfold vlAt; rw [List.getD_eq_getElem?_getD, List.getElem?_eq_getElem hlt]; rfl
  exact ⟨hlt, e, by rw [e]; exact h.vs _ hlt⟩
theorem vOk_fn {a : F} {l : List Cc} {bs : List Bd} {i : Nat} {v : Vl} (h : vOk a l bs i v = true) (hf : v.fn = true) : v.num = 0 ∧ pOk a l.length bs v.pl v.env = true ∧ kAt l v.pl = 3 ∧ (bw bs v.env).2 < (i : Int) := by
  unfold vOk at h
  rw [if_pos hf] at h
  simp only [Bool.and_eq_true, decide_eq_true_iff] at h
  exact ⟨h.1.1.1, h.1.1.2, h.1.2, h.2⟩
theorem vOk_num {a : F} {l : List Cc} {bs : List Bd} {i : Nat} {v : Vl} (h : vOk a l bs i v = true) (hf : v.fn = false) : -1000000 ≤ v.num ∧ v.num ≤ 1000000 ∧ v.pl = 0 ∧ v.env = 0 := by
  unfold vOk at h
  rw [if_neg (by rw [hf]; simp)] at h
  simp only [Bool.and_eq_true, decide_eq_true_iff, inB_iff] at h
  exact ⟨h.1.1.1, h.1.1.2, h.1.2, h.2⟩
theorem fOk_parts {a : F} {l : List Cc} {bs : List Bd} {nv : Nat} {f : Fm} (h : fOk a l bs nv f = true) : pOk a l.length bs f.pl f.env = true ∧ kAt l f.pl = f.k ∧ (f.k = 4 ∨ f.k = 5 ∨ f.k = 6 ∨ f.k = 7) ∧ (f.val = -1 ∨ (f.k = 4 ∨ f.k = 5) ∧ 0 ≤ f.val ∧ f.val < nv) := by
  unfold fOk at h
  simp only [Bool.and_eq_true, decide_eq_true_iff] at h
  obtain ⟨⟨h1, h2⟩, h3⟩ := h
  refine ⟨h1, h2, ?_⟩
  by_cases hk : f.k = 4 ∨ f.k = 5
  · rw [if_pos hk, Bool.or_eq_true, decide_eq_true_iff, blw_iff] at h3
    exact ⟨by omega, by rcases h3 with h3 | h3; · exact .inl h3
                        · exact .inr ⟨hk, h3⟩⟩
  · rw [if_neg hk] at h3
    simp only [Bool.and_eq_true, decide_eq_true_iff] at h3
    exact ⟨by omega, .inl h3.2⟩
theorem nOk_done {a : F} {l : List Cc} {m : Mc} (h : nOk a l m = true) (hd : m.done = true) : m.pl = -1 ∧ m.env = -1 ∧ 0 ≤ m.val ∧ m.val < m.vs.length := by
  unfold nOk at h
  rw [if_pos hd] at h
  simp only [Bool.and_eq_true, decide_eq_true_iff, blw_iff] at h
  exact ⟨h.1.1, h.1.2, h.2⟩
theorem nOk_not {a : F} {l : List Cc} {m : Mc} (h : nOk a l m = true) (hd : m.done = false) : m.val = -1 ∧ pOk a l.length m.bs m.pl m.env = true := by
  unfold nOk at h
  rw [if_neg (by rw [hd]; simp)] at h
  simpa using h
theorem nOk_come {a : F} {l : List Cc} {m : Mc} {v : Int} (h : 0 ≤ v ∧ v < m.vs.length) : nOk a l (comeM m v) = true := by
  unfold nOk comeM
  simp [blw]
  omega
theorem nOk_next {a : F} {l : List Cc} {m : Mc} {p e : Int} (h : pOk a l.length m.bs p e = true) : nOk a l (nextM m p e) = true := by
  unfold nOk nextM
  simp [h]

theorem newM_good {a : F} {l : List Cc} {m m' : Mc} {v : Vl} {fs : List Fm} (h : GM a l m) (hs : ∀ f ∈ fs, f ∈ m.fs) (hl : fs.length ≤ m.fs.length) (hv : vOk a l m.bs m.vs.length v = true) (he : newM { m with fs := fs } v = .inl m') : GM a l m' := by
  unfold newM at he
  simp only at he
  by_cases hn : 500 ≤ m.vs.length
  · rw [if_pos hn] at he; cases he
  · rw [if_neg hn] at he
    simp only [Sum.inl.injEq] at he
    subst he
    refine ⟨Nat.le_trans hl h.nf, by simp [comeM]; omega, h.nb, ?_, fun i hi => ?_, fun f hf => ?_, nOk_come (by simp; omega)⟩
    · exact bsOk_snoc h.bs (by simp [comeM])
    · simp only [comeM] at hi ⊢
      by_cases hlt : i < m.vs.length
      · rw [List.getElem_append_left hlt]; exact h.vs i hlt
      · have : i = m.vs.length := by simp at hi; omega
        subst this
        rw [List.getElem_append_right (Nat.le_refl _)]
        simpa using hv
    · have := h.fs f (hs f hf)
      exact fOk_nv (by simp [comeM]) this
theorem bindM_good {a : F} {l : List Cc} {m m' : Mc} {up p : Int} (h : GM a l m) (hv : 0 ≤ m.val ∧ m.val < m.vs.length) (hu : -1 ≤ up ∧ up < m.bs.length) (hp : 0 ≤ p ∧ p < l.length) (ht : tV (ndT a) p.toNat = (bw m.bs up).1 + 1) (he : bindM m up p = .inl m') : GM a l m' := by
  unfold bindM at he
  by_cases hn : 500 ≤ m.bs.length
  · rw [if_pos hn] at he; cases he
  · rw [if_neg hn] at he
    simp only [Sum.inl.injEq] at he
    subst he
    have hb : bOk m.vs.length m.bs.length ⟨m.val, up⟩ = true := bOk_iff.2 ⟨hv.1, hv.2, hu.1, hu.2⟩
    have hbs := bsOk_more h.bs hb
    refine ⟨by have := h.nf; simp [nextM]; omega, h.nv, by simp [nextM]; omega, hbs, fun i hi => vOk_more h.bs (h.vs i hi), fun f hf => fOk_more h.bs (h.fs f (mem_drop hf)), nOk_next ?_⟩
    rw [pOk_iff]
    refine ⟨hp, ⟨by omega, by simp; omega⟩, ?_⟩
    have hlt : m.bs.length < (m.bs ++ [(⟨m.val, up⟩ : Bd)]).length := by simp
    have := bw_step hbs hlt
    rw [List.getElem_append_right (Nat.le_refl _)] at this
    simp only [Nat.sub_self, List.getElem_cons_zero] at this
    rw [this]
    simp only
    rw [bw_more h.bs _ hu.2, ht]

theorem step_good {a : F} {l : List Cc} {m m' : Mc} (hC : Cl l a) (h : GM a l m) (he : stepM a l m = .inl m') : GM a l m' := by
  unfold stepM at he
  by_cases hd : m.done = true
  · rw [if_pos hd] at he
    obtain ⟨n1, n2, n3, n4⟩ := nOk_done h.now hd
    obtain ⟨hlt, hve, hvo⟩ := vlAt_ok h ⟨n3, n4⟩
    cases hf : m.fs.getLast? with
    | none => rw [hf] at he; cases he
    | some f =>
      rw [hf] at he
      simp only at he
      have hmem : f ∈ m.fs := List.mem_of_getLast? hf
      obtain ⟨p1, p2, p3, p4⟩ := fOk_parts (h.fs f hmem)
      obtain ⟨q1, q2, q3⟩ := pOk_iff.1 p1
      obtain ⟨x, e, k, x1, x2, x3, x4, x5, x6, x7⟩ := hC.part q1
      have hxk : x.k = f.k := by rw [← x4, p2]
      have dl : m.fs.dropLast.length ≤ m.fs.length := by simp
      unfold goM at he
      by_cases k6 : f.k = 6
      · rw [if_pos k6] at he
        by_cases hfn : (vlAt m m.val).fn = true
        · rw [if_pos hfn] at he; cases he
        · rw [if_neg hfn] at he
          simp only [Sum.inl.injEq] at he
          subst he
          have har : ar x.k = 3 := by rw [hxk, k6]; rfl
          have hb : ∀ j, binds x.k j = 0 := fun j => by rw [hxk, k6]; unfold binds; rw [if_neg (by omega)]
          have hkk : ∀ j, j < 3 → pOk a l.length m.bs (kp a f.pl j) f.env = true := fun j hj => by
            obtain ⟨z1, z2, z3⟩ := hC.kpOk q1 x1 (j := j) (by omega)
            rw [pOk_iff]
            exact ⟨⟨z1, z2⟩, q2, by rw [z3, hb, q3, x3]; simp⟩
          exact ⟨by have := h.nf; simp [nextM]; omega, h.nv, h.nb, h.bs, h.vs, fun g hg => h.fs g (mem_drop hg), nOk_next (hkk _ (by split <;> omega))⟩
      · rw [if_neg k6] at he
        by_cases k7 : f.k = 7
        · rw [if_pos k7] at he
          have har : ar x.k = 2 := by rw [hxk, k7]; rfl
          obtain ⟨z1, z2, z3⟩ := hC.kpOk q1 x1 (j := 1) (by omega)
          have hb : binds x.k 1 = 1 := by rw [hxk, k7]; rfl
          exact bindM_good h ⟨n3, n4⟩ q2 ⟨z1, z2⟩ (by rw [z3, hb, q3, x3]; simp) he
        · rw [if_neg k7] at he
          have har : ar x.k = 2 := by rw [hxk]; unfold ar; rw [if_neg (by omega), if_pos (by omega)]
          by_cases hfv : f.val = -1
          · rw [if_pos hfv] at he
            simp only [Sum.inl.injEq] at he
            subst he
            obtain ⟨z1, z2, z3⟩ := hC.kpOk q1 x1 (j := 1) (by omega)
            have hb : binds x.k 1 = 0 := by rw [hxk]; unfold binds; rw [if_neg (by omega)]
            have hne : m.fs ≠ [] := by intro e; rw [e] at hmem; simp at hmem
            have hpos := List.length_pos_iff.2 hne
            refine ⟨by have := h.nf; simp [nextM]; omega, h.nv, h.nb, h.bs, h.vs, fun g hg => ?_, nOk_next (pOk_iff.2 ⟨⟨z1, z2⟩, q2, by rw [z3, hb, q3, x3]; simp⟩)⟩
            simp only [nextM, List.mem_append, List.mem_singleton] at hg
            rcases hg with hg | rfl
            · exact h.fs g (mem_drop hg)
            · unfold fOk
              simp only [Bool.and_eq_true, decide_eq_true_iff]
              refine ⟨⟨p1, p2⟩, ?_⟩
              rw [if_pos (by omega), Bool.or_eq_true, blw_iff]
              exact .inr ⟨n3, n4⟩
          · rw [if_neg hfv] at he
            obtain ⟨-, v1, v2⟩ := p4.resolve_left hfv
            obtain ⟨hlt', hve', hvo'⟩ := vlAt_ok h ⟨v1, v2⟩
            by_cases k4 : f.k = 4
            · rw [if_pos k4] at he
              by_cases hfn : (vlAt m f.val).fn = true
              · rw [if_pos hfn] at he
                obtain ⟨g1, g2, g3, g4⟩ := vOk_fn hvo' hfn
                obtain ⟨r1, r2, r3⟩ := pOk_iff.1 g2
                obtain ⟨y, e', k', y1, y2, y3, y4, y5, y6, y7⟩ := hC.part r1
                have hyk : y.k = 3 := by rw [← y4, g3]
                obtain ⟨z1, z2, z3⟩ := hC.kpOk r1 y1 (j := 0) (by rw [hyk]; decide)
                have hb : binds y.k 0 = 1 := by rw [hyk]; rfl
                exact bindM_good h ⟨n3, n4⟩ r2 ⟨z1, z2⟩ (by rw [z3, hb, r3, y3]; simp) he
              · rw [if_neg hfn] at he; cases he
            · rw [if_neg k4] at he
              by_cases hst : (vlAt m f.val).fn = true ∨ (vlAt m m.val).fn = true ∨ inB ((vlAt m f.val).num + (vlAt m m.val).num) (-1000000) 1000000 = false
              · rw [if_pos hst] at he; cases he
              · rw [if_neg hst] at he
                simp only [not_or, Bool.not_eq_true, Bool.not_eq_false] at hst
                refine newM_good h (fun g hg => mem_drop hg) dl ?_ he
                unfold vOk
                simp [hst.2.2]
  · have hd' : m.done = false := by simpa using hd
    rw [if_neg hd] at he
    obtain ⟨n1, n2⟩ := nOk_not h.now hd'
    obtain ⟨q1, q2, q3⟩ := pOk_iff.1 n2
    obtain ⟨x, e, k, x1, x2, x3, x4, x5, x6, x7⟩ := hC.part q1
    unfold doM at he
    rw [x2] at he
    simp only at he
    by_cases k1 : x.k = 1
    · rw [if_pos k1] at he
      simp only [Sum.inl.injEq] at he
      subst he
      have hb := hC.bound x1 k1
      have := lkB_ok h.bs x.n.toNat m.env q2.2 (by rw [q3, x3]; omega)
      exact ⟨h.nf, h.nv, h.nb, h.bs, h.vs, h.fs, nOk_come ⟨this.1, this.2.1⟩⟩
    · rw [if_neg k1] at he
      by_cases k2 : x.k = 2
      · rw [if_pos k2] at he
        refine newM_good (fs := m.fs) h (fun _ hg => hg) (Nat.le_refl _) ?_ he
        have : inB x.n (-1000000) 1000000 = true := by unfold goodC at x5; rw [if_neg k1, if_pos k2] at x5; exact x5
        unfold vOk
        simp [this]
      · rw [if_neg k2] at he
        by_cases k3 : x.k = 3
        · rw [if_pos k3] at he
          refine newM_good (fs := m.fs) h (fun _ hg => hg) (Nat.le_refl _) ?_ he
          unfold vOk
          have hbb := bw_bound h.bs (m.env.toNat + 1) m.env q2.1 (by omega) q2.2
          simp only [if_true, decide_true, Bool.true_and, Bool.and_eq_true, decide_eq_true_iff]
          exact ⟨⟨n2, by rw [x4, k3]⟩, by omega⟩
        · rw [if_neg k3] at he
          by_cases hn : 500 ≤ m.fs.length
          · rw [if_pos hn] at he; cases he
          · rw [if_neg hn] at he
            simp only [Sum.inl.injEq] at he
            subst he
            have hk : x.k = 4 ∨ x.k = 5 ∨ x.k = 6 ∨ x.k = 7 := by
              unfold goodC at x5
              rw [if_neg k1, if_neg k2] at x5
              simp [inB] at x5
              omega
            have har : 0 < ar x.k := by unfold ar; rw [if_neg k3]; split <;> (try split) <;> omega
            obtain ⟨z1, z2, z3⟩ := hC.kpOk q1 x1 (j := 0) har
            have hb : binds x.k 0 = 0 := by unfold binds; rw [if_neg (by omega)]
            refine ⟨by simp [nextM]; omega, h.nv, h.nb, h.bs, h.vs, fun g hg => ?_, nOk_next (pOk_iff.2 ⟨⟨z1, z2⟩, q2, by rw [z3, hb, q3, x3]; simp⟩)⟩
            simp only [nextM, List.mem_append, List.mem_singleton] at hg
            rcases hg with hg | rfl
            · exact h.fs g hg
            · unfold fOk
              simp only [Bool.and_eq_true, decide_eq_true_iff]
              refine ⟨⟨n2, x4⟩, ?_⟩
              by_cases h45 : x.k = 4 ∨ x.k = 5
              · rw [if_pos h45]; simp
              · rw [if_neg h45]; simp; omega
theorem start_good {l : List Cc} {a : F} (hC : Cl l a) : GM a l startM := by
  have hp := hC.pos
  obtain ⟨x, k, rfl⟩ := F.len_1 hC.one
  refine ⟨by simp [startM], by simp [startM], by simp [startM], rfl, fun i hi => by simp [startM] at hi, fun f hf => by simp [startM] at hf, ?_⟩
  unfold nOk startM
  simp only [Bool.false_eq_true, if_false, decide_true, Bool.true_and]
  rw [pOk_iff]
  refine ⟨⟨by omega, by omega⟩, ⟨by omega, by simp⟩, ?_⟩
  rw [bw_neg _ _ (by omega)]
  simp [tV, ndT, nd, binds_0']
end Go.Proofs.YtnmkbpflbfhpnaaGreat.W

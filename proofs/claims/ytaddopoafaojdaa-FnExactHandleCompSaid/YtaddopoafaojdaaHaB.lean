/-
  Two handlers made one: the model, contracts of the program's asItIs, asNone, asToldOn, asOutside, and of both AfterBoth. Conditions: at most 1048576 rules.
-/
import Derived.Test.YtaddopoafaojdaaHaG
import Derived.Test.YtaddopoafaojdaaApS
namespace Go.Proofs.Ytaddopoafaojdaa.C
open Go.Proofs.Ytaddopoafaojdaa.W
open Go.ChangeShapes Go.WideShapes Go.ChangeAt Go.RowKit
set_option linter.unusedVariables false

/-- The rule for an operation that does the same with g around it. -/
def aft (g : Hd) (i : Nat) (r : Ru) : Ru := if r.kd = 5 then g.rs.getD i r else if r.kd = 4 then ⟨4, (r.n + g.ret) % 100⟩ else r
def afL (g : Hd) (l : List Ru) : List Ru := l.mapIdx (aft g)
theorem afL_succ (g : Hd) {l : List Ru} {j : Nat} (h : j < l.length) : afL g (l.take (j + 1)) = afL g (l.take j) ++ [aft g j l[j]] := by
  unfold afL
  rw [List.take_succ_eq_append_getElem h, List.mapIdx_append]
  simp [Nat.min_eq_left (Nat.le_of_lt h)]
theorem afL_len (g : Hd) (l : List Ru) : (afL g l).length = l.length := by simp [afL]
/-- None of the rules asks both. -/
def nb (l : List Ru) : Bool := l.all fun r => decide (r.kd ≠ 3)
theorem nb_drop {l : List Ru} {j : Nat} (h : j < l.length) : nb (l.drop j) = (decide (l[j].kd ≠ 3) && nb (l.drop (j + 1))) := by
  unfold nb; rw [List.drop_eq_getElem_cons h]; rfl
def abOK (g h : Hd) : Bool := goodH g && goodH h && nb h.rs
def abH (g h : Hd) : Hd := if abOK g h = true then ⟨(h.ret + g.ret) % 100, afL g h.rs⟩ else ⟨0, []⟩
/-- A handler in memory of one's own. -/
def HOwn (w : World) (base : Nat) (v : Value) (h : Hd) : Prop := ∃ s, v = .agg #[.int .i64 h.ret, s] ∧ w.ownsRow base 62 2 s h.rs.length (rcells 2 Ru.c h.rs)
def RH (w : World) (g h : Hd) (e : Ending) (w' : World) : Prop := ∃ v, e = .returned (.tuple #[v, .bool (abOK g h)]) ∧ HOwn w' w.heap.size v (abH g h) ∧ Below w.heap.size w w'
theorem bel3 (w : World) (a b c : Obj) : Below w.heap.size w (((w.alloc a).alloc b).alloc c) := (((Below.refl _ _).alloc (Nat.le_refl _) _).alloc (by simp) _).alloc (by simp; omega) _

set_option maxHeartbeats 1000000 in
theorem asItIs_any (k n q : Int) (ad : Option Addr) (m c : Nat) (i : Int) (w : World) :
    Calls Try.prog 47 #[.agg #[.int .i64 k, .int .i64 n], .agg #[.int .i64 q, .slice ad m c], .int .i64 i] w fun e w' => e = .returned (.tuple #[.agg #[.int .i64 k, .int .i64 n], .bool true]) ∧ Below w.heap.size w w' := by
  go_enter Try.func47, Try.ntmps47
  go_wp2_with fail
  exact bodyPost_ret (v := .tuple #[.agg #[.int .i64 k, .int .i64 n], .bool true]) (by simp [results, Try.results47, go_sem]) rfl ⟨rfl, bel3 _ _ _ _⟩

set_option maxHeartbeats 1000000 in
theorem asNone_any (k n q : Int) (ad : Option Addr) (m c : Nat) (i : Int) (w : World) :
    Calls Try.prog 50 #[.agg #[.int .i64 k, .int .i64 n], .agg #[.int .i64 q, .slice ad m c], .int .i64 i] w fun e w' => e = .returned (.tuple #[.agg #[.int .i64 0, .int .i64 0], .bool false]) ∧ Below w.heap.size w w' := by
  go_enter Try.func50, Try.ntmps50
  go_wp2_with fail
  exact bodyPost_ret (v := .tuple #[.agg #[.int .i64 0, .int .i64 0], .bool false]) (by simp [results, Try.results50, go_sem]) rfl ⟨rfl, bel3 _ _ _ _⟩

set_option maxHeartbeats 1000000 in
theorem sumTold_any' (a b : Int) (w : World) (ha : 0 ≤ a) (ha' : a ≤ 99) (hb : 0 ≤ b) (hb' : b ≤ 99) :
    Calls Try.prog 57 #[.int .i64 a, .int .i64 b] w fun e w' => e = .returned (.int .i64 ((a + b) % 100)) ∧ w' = w := by
  go_enter Try.func57, Try.ntmps57
  go_wp2
  go_ret
  exact ⟨ret_int (by omega), rfl⟩

set_option maxHeartbeats 2000000 in
theorem asToldOn_any (k n q : Int) (ad : Option Addr) (m c : Nat) (i : Int) (w : World) (h0 : 0 ≤ n) (h1 : n ≤ 99) (h2 : 0 ≤ q) (h3 : q ≤ 99) :
    Calls Try.prog 53 #[.agg #[.int .i64 k, .int .i64 n], .agg #[.int .i64 q, .slice ad m c], .int .i64 i] w fun e w' => e = .returned (.tuple #[.agg #[.int .i64 4, .int .i64 ((n + q) % 100)], .bool true]) ∧ Below w.heap.size w w' := by
  have HC := hide (fun w' => sumTold_any' n q w' h0 h1 h2 h3)
  obtain ⟨S, hS⟩ : ∃ S, S = (n + q) % 100 := ⟨_, rfl⟩
  rw [← hS] at HC ⊢
  clear hS h0 h1 h2 h3
  go_enter Try.func53, Try.ntmps53
  go_wp2_with fail
  refine (HC.out _).mono ?_
  rintro e w1 ⟨rfl, hw⟩
  subst hw
  go_wp2_with fail
  exact bodyPost_ret (v := .tuple #[.agg #[.int .i64 4, .int .i64 S], .bool true]) (by simp [results, Try.results53, go_sem]) rfl ⟨rfl, bel3 _ _ _ _⟩

set_option maxHeartbeats 2000000 in
theorem asOutside_any (k n q : Int) (ad : Option Addr) (c : Nat) (R : List Ru) (i : Nat) (w : World) (hR : RuRow w ad R) (hi : i < R.length) (hl : R.length ≤ 1048576) :
    Calls Try.prog 55 #[.agg #[.int .i64 k, .int .i64 n], .agg #[.int .i64 q, .slice ad R.length c], .int .i64 (i : Int)] w fun e w' => e = .returned (.tuple #[.agg #[.int .i64 R[i].kd, .int .i64 R[i].n], .bool true]) ∧ Below w.heap.size w w' := by
  obtain ⟨b, o, rfl, hb, p0, p1⟩ := RuRow.tok hR (bel3 w (.cells #[.int .i64 k, .int .i64 n] 62) (.cells #[.int .i64 q, .slice ad R.length c] 33) (.cells #[.int .i64 0, .int .i64 0] 62)) hi
  have hB3 := bel3 w (.cells #[.int .i64 k, .int .i64 n] 62) (.cells #[.int .i64 q, .slice (some ⟨b, o, none⟩) R.length c] 33) (.cells #[.int .i64 0, .int .i64 0] 62)
  obtain ⟨x, hx⟩ : ∃ x, x = R[i] := ⟨_, rfl⟩
  rw [← hx] at p0 p1 ⊢
  have hi' : (i : Int) < (R.length : Int) := by omega
  have x1 : Bx (((w.alloc (.cells #[.int .i64 k, .int .i64 n] 62)).alloc (.cells #[.int .i64 q, .slice (some ⟨b, o, none⟩) R.length c] 33)).alloc (.cells #[.int .i64 0, .int .i64 0] 62)) (w.heap.size + 1) #[.int .i64 q, .slice (some ⟨b, o, none⟩) R.length c] 33 := by
    have := (Bx.new (w.alloc (.cells #[.int .i64 k, .int .i64 n] 62)) #[.int .i64 q, .slice (some ⟨b, o, none⟩) R.length c] 33).alloc (.cells #[.int .i64 0, .int .i64 0] 62)
    simpa using this
  have x2 : Bx (((w.alloc (.cells #[.int .i64 k, .int .i64 n] 62)).alloc (.cells #[.int .i64 q, .slice (some ⟨b, o, none⟩) R.length c] 33)).alloc (.cells #[.int .i64 0, .int .i64 0] 62)) (w.heap.size + 1 + 1) #[.int .i64 0, .int .i64 0] 62 := by
    have := Bx.new ((w.alloc (.cells #[.int .i64 k, .int .i64 n] 62)).alloc (.cells #[.int .i64 q, .slice (some ⟨b, o, none⟩) R.length c] 33)) #[.int .i64 0, .int .i64 0] 62
    simpa using this
  obtain ⟨W, hW⟩ : ∃ W, W = (((w.alloc (.cells #[.int .i64 k, .int .i64 n] 62)).alloc (.cells #[.int .i64 q, .slice (some ⟨b, o, none⟩) R.length c] 33)).alloc (.cells #[.int .i64 0, .int .i64 0] 62)) := ⟨_, rfl⟩
  rw [← hW] at p0 p1 hB3 x1 x2
  have HW := hide hW
  have c1 := x1.c
  have c2 := x2.c
  have f2 := x2.f
  have hl1 := x1.lt
  have hl2 := x2.lt
  have HX2 := hide x2
  clear hW hx x1 x2 hR
  go_enter Try.func55, Try.ntmps55
  go_upto_region 1 with fail
  rw [← HW.out]
  clear HW
  go_wp2_with fail
  have hx := (HX2.out.set 0 (.int .i64 x.kd)).set 1 (.int .i64 x.n)
  have r0 := (hx.c 0).trans rfl
  have r1 := (hx.c 1).trans rfl
  clear c1 c2 f2 p0 p1
  exact bodyPost_ret (v := .tuple #[.agg #[.int .i64 x.kd, .int .i64 x.n], .bool true]) (by simp [results, Try.results55, go_sem, r0, r1]) rfl ⟨rfl, (hB3.setCell (p := ⟨w.heap.size + 1 + 1, 0, none⟩) (by simp; omega) _).setCell (p := ⟨w.heap.size + 1 + 1, 1, none⟩) (by simp; omega) _⟩
end Go.Proofs.Ytaddopoafaojdaa.C

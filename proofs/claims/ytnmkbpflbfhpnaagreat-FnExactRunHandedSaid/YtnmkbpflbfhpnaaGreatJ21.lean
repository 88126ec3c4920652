/-
  Some texts of this proof in one: MaK, MaR0, MaR1.
-/
import Derived.Test.YtnmkbpflbfhpnaaGreatJ15
import Derived.Test.YtnmkbpflbfhpnaaGreatJ20
import Derived.Deep.RegionHeld3
import Derived.Deep.RegionLaw
import Derived.Deep.AppendLies
import Derived.Deep.CutRange
/-
  A term cut from what is behind it: a contract of cutAhead. Conditions: at most 1048576 cells.
-/
namespace Go.Proofs.YtnmkbpflbfhpnaaGreat.W
open Go.ChangeShapes Go.WideShapes Go.ChangeAt Go.RowKit
set_option linter.unusedVariables false

set_option maxRecDepth 20000 in
set_option maxHeartbeats 2000000 in
theorem cutAhead_any (b o c : Nat) (l : List Cc) (n : Nat) (w : World) (hl : l.length ≤ 1048576) (hc : l.length ≤ c) (hz : sz l 1 0 = some n) (hn : n ≤ l.length) (h : CRowAt w b o l) :
    Calls Tryz.prog 105 #[.slice (some ⟨b, o, none⟩) l.length c] w fun e w' => ∃ q, e = .returned (.tuple #[.slice (some ⟨b, o, none⟩) n c, .slice (some ⟨b, q, none⟩) (l.length - n) (c - n)]) ∧ (n < l.length → q = o + n * 2) ∧ Below w.heap.size w w' := by
  have HR : Hid (CRow w (some ⟨b, o, none⟩) l) := hide (.inr ⟨b, o, rfl, h⟩)
  have HZ := hide hz
  clear h hz
  go_enter Tryz.func105, Tryz.ntmps105
  go_wp2_with fail
  go_loopw [4, 5] (fun i m w' => ∃ (j M : Nat), j ≤ l.length ∧ M ≤ 2 * j + 1 ∧ i = .int .i64 j ∧ m = .int .i64 M ∧ sz (l.drop j) M j = some n ∧ w' = w) (fun i _ _ => l.length - (intOf i).toNat)
  case atStart => exact ⟨0, 1, by omega, by omega, rfl, rfl, HZ.out, rfl⟩
  case round =>
    obtain ⟨j, M, hj, hM, rfl, rfl, hs, rfl⟩ := hrel
    by_cases hM0 : M = 0
    · subst hM0
      rw [sz_0] at hs
      simp only [Option.some.injEq] at hs
      subst hs
      have h1 : (0 : Int) ≤ (j : Int) := by omega
      have h2 : (j : Int) ≤ (l.length : Int) := by omega
      have h3 : (l.length : Int) ≤ (c : Int) := by omega
      have h4 : (j : Int) ≤ (c : Int) := by omega
      clear hM HZ
      by_cases hcj : c = j
      · obtain rfl : c = l.length := by omega
        subst hcj
        go_wp2_with fail
        go_quiet (fail)
        go_wp2_with fail
        exact bodyPost_ret (v := .tuple #[.slice (some ⟨b, o, none⟩) l.length l.length, .slice (some ⟨b, o, none⟩) (l.length - l.length) (l.length - l.length)]) (by simp [results, Tryz.results105, go_sem]) rfl ⟨o, rfl, fun h => absurd h (Nat.lt_irrefl _), ⟨rfl, rfl, rfl, Nat.le_refl _, fun _ _ => rfl⟩⟩
      · go_wp2_with fail
        go_quiet (fail)
        go_wp2_with fail
        exact bodyPost_ret (v := .tuple #[.slice (some ⟨b, o, none⟩) j c, .slice (some ⟨b, o + j * 2, none⟩) (l.length - j) (c - j)]) (by simp [results, Tryz.results105, go_sem]) rfl ⟨_, rfl, fun _ => rfl, ⟨rfl, rfl, rfl, Nat.le_refl _, fun _ _ => rfl⟩⟩
    · have hMi : (0 : Int) < (M : Int) := by omega
      have hlt : j < l.length := by
        rcases Nat.lt_or_ge j l.length with h | h
        · exact h
        · rw [List.drop_eq_nil_of_le h, sz, if_neg hM0] at hs; cases hs
      have hlt' : (j : Int) < (l.length : Int) := by omega
      obtain ⟨b', o', he, hb, p0, p1⟩ := HR.out.tok (Below.refl _ _) hlt
      simp only [Option.some.injEq, Addr.mk.injEq] at he
      obtain ⟨rfl, rfl, -⟩ := he
      have hd : l.drop j = l[j] :: l.drop (j + 1) := List.drop_eq_getElem_cons hlt
      obtain ⟨x, hx⟩ : ∃ x, x = l[j] := ⟨_, rfl⟩
      rw [← hx] at p0 p1 hd
      rw [hd, sz, if_neg hM0] at hs
      have hg : goodC x = true := by
        cases hg : goodC x with
        | true => rfl
        | false => rw [hg] at hs; simp at hs
      rw [if_pos hg] at hs
      have HSz := hide hs
      clear hs hd hx hg
      go_wp2_with fail
      refine (termsBehind_any x.k _).mono ?_
      rintro e w2 ⟨rfl, rfl⟩
      have hle := ar_le x.k
      obtain ⟨R, hR⟩ : ∃ R, R = ar x.k := ⟨_, rfl⟩
      rw [← hR] at HSz hle ⊢
      clear hR p0 p1
      go_wp2_with fail
      refine ⟨⟨j + 1, M - 1 + R, by omega, by omega, by go_num, by go_num, HSz.out, by trivial⟩, by simp [intOf]; omega⟩
end Go.Proofs.YtnmkbpflbfhpnaaGreat.W

/-
  A running machine of the program in memory: what is kept where fields are written and memory is made. No program here.
-/
namespace Go.Proofs.YtnmkbpflbfhpnaaGreat.W
open Go.ChangeShapes Go.WideShapes Go.ChangeAt Go.RowKit
set_option linter.unusedVariables false

/-- A running machine in memory. -/
def RB (w : World) (rb lo : Nat) (tv : Value) (m : Mc) : Prop := ∃ sf sv sb, Bx w rb #[tv, .bool m.done, .int .i64 m.pl, .int .i64 m.env, .int .i64 m.val, sf, sv, sb] 66 ∧
  w.ownsRow lo 141 4 sf m.fs.length (rcells 4 Fm.c m.fs) ∧ w.ownsRow lo 69 4 sv m.vs.length (rcells 4 Vl.c m.vs) ∧ w.ownsRow lo 162 2 sb m.bs.length (rcells 2 Bd.c m.bs) ∧ lo ≤ rb
theorem own_bx {w : World} {rb lo n z : Nat} {cs : Array Value} {T T' : TypeId} {v : Value} {xs : List Value} (h : Bx w rb cs T) (ho : w.ownsRow lo T' z v n xs) (hT : T ≠ T') : v.ownBlock ≠ some rb := by
  intro e
  rcases ho.2 with ⟨h1, -⟩ | ⟨g, cap, cur, h1, -, hh, -⟩
  · rw [h1] at e; cases e
  · rw [h1] at e
    simp only [Value.ownBlock, Option.some.injEq] at e
    subst e
    unfold Bx at h
    rw [h] at hh
    simp only [Option.some.injEq, Obj.cells.injEq] at hh
    exact hT hh.2.1
theorem RB.lt {w : World} {rb lo : Nat} {tv : Value} {m : Mc} (h : RB w rb lo tv m) : rb < w.heap.size ∧ lo ≤ rb := by
  obtain ⟨sf, sv, sb, h1, -, -, -, h5⟩ := h
  exact ⟨h1.lt, h5⟩
/-- Only memory was made. -/
theorem RB.below {w w' : World} {rb lo : Nat} {tv : Value} {m : Mc} (h : RB w rb lo tv m) (hb : Below w.heap.size w w') : RB w' rb lo tv m := by
  obtain ⟨sf, sv, sb, h1, h2, h3, h4, h5⟩ := h
  exact ⟨sf, sv, sb, h1.below hb h1.lt, own_keep h2 (fun k _ hk => hb.block k hk), own_keep h3 (fun k _ hk => hb.block k hk), own_keep h4 (fun k _ hk => hb.block k hk), h5⟩
/-- Fields were written. -/
theorem RB.write {w w' : World} {rb lo : Nat} {tv : Value} {m : Mc} {d : Bool} {p e x : Int} (h : RB w rb lo tv m) (ho : Oth rb w w') (hx : ∀ sf sv sb, Bx w rb #[tv, .bool m.done, .int .i64 m.pl, .int .i64 m.env, .int .i64 m.val, sf, sv, sb] 66 → Bx w' rb #[tv, .bool d, .int .i64 p, .int .i64 e, .int .i64 x, sf, sv, sb] 66) : RB w' rb lo tv { m with done := d, pl := p, env := e, val := x } := by
  obtain ⟨sf, sv, sb, h1, h2, h3, h4, h5⟩ := h
  refine ⟨sf, sv, sb, hx _ _ _ h1, own_same h2 (fun k hk _ hl => ho.block k hl (fun e => own_bx h1 h2 (by decide) (e ▸ hk))), own_same h3 (fun k hk _ hl => ho.block k hl (fun e => own_bx h1 h3 (by decide) (e ▸ hk))), own_same h4 (fun k hk _ hl => ho.block k hl (fun e => own_bx h1 h4 (by decide) (e ▸ hk))), h5⟩
theorem oth_set {b : Nat} {x y : World} (h : Oth b x y) (i : Nat) (v : Value) : Oth b x (y.setCell ⟨b, i, none⟩ v) := h.setCell i v
theorem oth_alloc {b : Nat} {x y : World} (h : Oth b x y) (hb : b < x.heap.size) (o : Obj) : Oth b x (y.alloc o) := h.trans (Oth.ofBelow ((Below.refl _ _).alloc (Nat.le_refl _) _))
theorem oth_drew {b : Nat} {x y : World} (h : Oth b x y) : Oth b x y.drew := ⟨h.os, h.tape, h.output, h.size, h.block⟩

theorem rcells_drop {α : Type} (z : Nat) (f : α → Nat → Value) (l : List α) : rcells z f l.dropLast = (rcells z f l).take ((l.length - 1) * z) := by
  rcases List.eq_nil_or_concat l with rfl | ⟨a, x, rfl⟩
  · simp [rcells]
  · rw [List.concat_eq_append, List.dropLast_concat, rcells_app, List.length_append, List.take_append_of_le_length (by rw [rcells_len]; simp), List.take_of_length_le (by rw [rcells_len]; simp)]
theorem own_cut {α : Type} {w : World} {lo n z c : Nat} {f : α → Nat → Value} {T : TypeId} {ad : Option Addr} {l : List α} (h : w.ownsRow lo T z (.slice ad n c) n (rcells z f l)) (hn : n = l.length) (hp : 0 < n) : w.ownsRow lo T z (.slice ad (n - 1) c) (n - 1) (rcells z f l.dropLast) := by
  subst hn
  refine ⟨by rw [rcells_len]; simp, ?_⟩
  rcases h.2 with ⟨h1, h2⟩ | ⟨g, cap, cur, h1, hg, hh, h2, h3, h4, h5⟩
  · omega
  · simp only [Value.slice.injEq] at h1
    obtain ⟨rfl, -, rfl⟩ := h1
    refine .inr ⟨g, c, cur, rfl, hg, hh, by omega, h3, h4, ?_⟩
    rw [rcells_drop, ← h5, List.take_take]
    congr 1
    exact (Nat.min_eq_left (Nat.mul_le_mul_right _ (by omega))).symm

theorem RB.slots {w : World} {rb lo : Nat} {tv : Value} {m : Mc} (h : RB w rb lo tv m) : ∃ af cf av cv ab cb, Bx w rb #[tv, .bool m.done, .int .i64 m.pl, .int .i64 m.env, .int .i64 m.val, .slice af m.fs.length cf, .slice av m.vs.length cv, .slice ab m.bs.length cb] 66 ∧
    w.ownsRow lo 141 4 (.slice af m.fs.length cf) m.fs.length (rcells 4 Fm.c m.fs) ∧ w.ownsRow lo 69 4 (.slice av m.vs.length cv) m.vs.length (rcells 4 Vl.c m.vs) ∧ w.ownsRow lo 162 2 (.slice ab m.bs.length cb) m.bs.length (rcells 2 Bd.c m.bs) ∧ m.fs.length ≤ cf ∧ m.vs.length ≤ cv ∧ m.bs.length ≤ cb ∧ cf ≤ maxLen := by
  obtain ⟨sf, sv, sb, h1, h2, h3, h4, h5⟩ := h
  obtain ⟨af, cf, rfl⟩ := own_form h2
  obtain ⟨av, cv, rfl⟩ := own_form h3
  obtain ⟨ab, cb, rfl⟩ := own_form h4
  refine ⟨af, cf, av, cv, ab, cb, h1, h2, h3, h4, own_cap h2, own_cap h3, own_cap h4, ?_⟩
  rcases h2.2 with ⟨e, -⟩ | ⟨g, cap, cur, e, -, -, -, e2, -⟩
  · simp only [Value.slice.injEq] at e; unfold maxLen; omega
  · simp only [Value.slice.injEq] at e; omega

end Go.Proofs.YtnmkbpflbfhpnaaGreat.W

/-
  Contracts of come and next of a running machine. No conditions.
-/
namespace Go.Proofs.YtnmkbpflbfhpnaaGreat.W
open Go.ChangeShapes Go.WideShapes Go.ChangeAt Go.RowKit
set_option linter.unusedVariables false

set_option maxHeartbeats 1000000 in
theorem come_any (rb lo : Nat) (tv : Value) (m : Mc) (v : Int) (w : World) (h : RB w rb lo tv m) :
    Calls Tryz.prog 75 #[.pointer (some ⟨rb, 0, none⟩), .int .i64 v] w fun e w' => e = .returned (.tuple #[]) ∧ RB w' rb lo tv (comeM m v) ∧ Oth rb w w' := by
  have HR := hide h
  obtain ⟨sf, sv, sb, h1, -⟩ := h
  have hc := h1.c
  have hf := h1.f
  clear h1
  go_enter Tryz.func75, Tryz.ntmps75
  go_wp2_with fail
  refine bodyPost_end (results_none rfl _ _ _) rfl ?_
  refine ⟨rfl, RB.write HR.out ?_ (fun sf sv sb hx => ?_), ?_⟩
  · exact oth_set (oth_set (oth_set (oth_set (Oth.refl _ _) _ _) _ _) _ _) _ _
  · have := (((hx.set 1 (.bool true)).set 2 (.int .i64 (-1))).set 3 (.int .i64 (-1))).set 4 (.int .i64 v)
    simpa using this
  · exact oth_set (oth_set (oth_set (oth_set (Oth.refl _ _) _ _) _ _) _ _) _ _

set_option maxHeartbeats 2000000 in
theorem next_any (rb lo : Nat) (tv tv' : Value) (m : Mc) (p e : Int) (w : World) (h : RB w rb lo tv m) :
    Calls Tryz.prog 78 #[.pointer (some ⟨rb, 0, none⟩), .agg #[tv', .int .i64 p, .int .i64 e]] w fun r w' => r = .returned (.tuple #[]) ∧ RB w' rb lo tv (nextM m p e) ∧ Oth rb w w' := by
  have HR := hide h
  have hlt := h.lt.1
  obtain ⟨sf, sv, sb, h1, -⟩ := h
  clear h1
  go_enter Tryz.func78, Tryz.ntmps78
  go_wp2_with fail
  have hp := Bx.new w #[tv', .int .i64 p, .int .i64 e] 136
  have hB0 : Below w.heap.size w (w.alloc (.cells #[tv', .int .i64 p, .int .i64 e] 136)) := (Below.refl _ _).alloc (Nat.le_refl _) _
  obtain ⟨w0, hw0⟩ : ∃ w0, w0 = w.alloc (.cells #[tv', .int .i64 p, .int .i64 e] 136) := ⟨_, rfl⟩
  rw [← hw0] at hp hB0 ⊢
  clear hw0
  have HR0 := hide (HR.out.below hB0)
  obtain ⟨sf, sv, sb, h1, -⟩ := HR0.out
  have hc := h1.c
  have hf := h1.f
  have hp0 : w0.cell? ⟨w.heap.size, 1, none⟩ = some (.int .i64 p) := hp.c 1
  have hp1 : w0.cell? ⟨w.heap.size, 2, none⟩ = some (.int .i64 e) := hp.c 2
  have hne : ¬ w.heap.size = rb := by omega
  have hne' : ¬ rb = w.heap.size := by omega
  clear h1 hp
  go_region_held3 (fun w' => w'.cell? ⟨w.heap.size, 1, none⟩ = some (.int .i64 p) ∧ w'.cell? ⟨w.heap.size, 2, none⟩ = some (.int .i64 e)) (go_keep)
    (first | fail)
  go_wp2_with fail
  refine bodyPost_end (results_none rfl _ _ _) rfl ?_
  have hO : Oth rb w0 ((((w0.setCell ⟨rb, 1, none⟩ (.bool false)).setCell ⟨rb, 2, none⟩ (.int .i64 p)).setCell ⟨rb, 3, none⟩ (.int .i64 e)).setCell ⟨rb, 4, none⟩ (.int .i64 (-1))).drew := oth_drew (oth_set (oth_set (oth_set (oth_set (Oth.refl _ _) _ _) _ _) _ _) _ _)
  refine ⟨rfl, RB.write HR0.out hO (fun sf sv sb hx => ?_), (Oth.ofBelow hB0).trans hO⟩
  have := (((hx.set 1 (.bool false)).set 2 (.int .i64 p)).set 3 (.int .i64 e)).set 4 (.int .i64 (-1))
  simpa using this.drew

end Go.Proofs.YtnmkbpflbfhpnaaGreat.W

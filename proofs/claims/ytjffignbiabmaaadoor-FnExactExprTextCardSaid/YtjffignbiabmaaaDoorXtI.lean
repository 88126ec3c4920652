/-
  Tokens of an expression, the program's: contracts of signToken, tokensAt, tokensAhead. Conditions: rows of at most 40 parts.
-/
import Derived.Test.YtjffignbiabmaaaDoorXtM
namespace Go.Proofs.YtjffignbiabmaaaDoor.W.T
open Go.ChangeShapes Go.WideShapes Go.ChangeAt Go.RowKit
set_option linter.unusedVariables false

theorem signToken_any (t : ByteArray) (w : World) :
    Calls Tryd.prog 96 #[.string t] w fun e w' => e = .returned (.agg #[.int .i64 3, .int .i64 0, .string t, .int .i64 0]) ∧ w' = w.alloc (.cells #[.int .i64 3, .int .i64 0, .string t, .int .i64 0] 87) := by
  go_enter Tryd.func96, Tryd.ntmps96
  go_wp2
  exact bodyPost_ret (v := .agg #[.int .i64 3, .int .i64 0, .string t, .int .i64 0]) (by simp [results, Tryd.results96, go_sem]) rfl ⟨rfl, rfl⟩

theorem own_tk {w : World} {base g : Nat} (x : Tk) (hb : base ≤ g) (h : w.heap[g]? = some (.cells #[.int .i64 x.k, .int .i64 x.n, .string x.t, .int .i64 x.a] 87)) : w.ownsRow base 87 4 (.slice (some ⟨g, 0, none⟩) 1 1) 1 (tkC1 x) :=
  ⟨rfl, .inr ⟨g, 1, _, rfl, hb, h, Nat.le_refl _, by unfold maxLen; omega, rfl, rfl⟩⟩

theorem xOwn_down {w : World} {b b' : Nat} {e : TypeId} {size : Nat} {v : Value} {n : Nat} {xs : List Value} (h : w.ownsRow b e size v n xs) (hb : b' ≤ b) : w.ownsRow b' e size v n xs := by
  refine ⟨h.1, ?_⟩
  rcases h.2 with hn | ⟨g, cap, cur, hv, hg, r⟩
  · exact .inl hn
  · exact .inr ⟨g, cap, cur, hv, by omega, r⟩

def TAOut (w w' : World) (e : E) (least : Int) (p : Nat) (z : Ending) : Prop := ∃ v, z = .returned (.tuple #[v, .int .i64 ((p + e.flat.length : Nat) : Int)]) ∧ w'.ownsRow w.heap.size 87 4 v (tks e least).length (tkC (tks e least)) ∧ Below w.heap.size w w'
def TAGoal (ad : Option Addr) (c : Nat) (l : List Xx) (e : E) : Prop := e.ok → ∀ (least : Int) (p : Nat) (r : List Xx) (w : World), W.Row w ad l → SgTab w → l.drop p = e.flat ++ r →
    Calls Tryd.prog 57 #[.slice ad l.length c, .int .i64 p, .int .i64 least] w fun z w' => TAOut w w' e least p z

set_option maxRecDepth 20000 in
set_option maxHeartbeats 4000000 in
theorem tokensAt_leaf (ad : Option Addr) (c : Nat) (l : List Xx) (hl : l.length ≤ 40) (x : Xx) : TAGoal ad c l (.leaf x) := by
  intro hok least p r w hR hS hd
  obtain ⟨hg, hb0⟩ := hok
  have hk := behind_0 hg hb0
  have hlen := drop_len hd (E.flat_pos _)
  have hd1 : l.drop p = x :: r := by rw [hd]; rfl
  obtain ⟨hp, hx⟩ := drop_lt hd1
  have hp' : (p : Int) < (l.length : Int) := by omega
  have hp0 : (0 : Int) ≤ (p : Int) := by omega
  obtain ⟨bb, o, rfl, hbb0, p0, p1, p2⟩ := hR.tok (Below.refl _ _) hp
  rw [hx] at p0 p1 p2
  have e1 : tks (.leaf x) least = [leafT x] := rfl
  have e2 : ((p + (E.leaf x).flat.length : Nat) : Int) = (p : Int) + 1 := by simp [E.flat]
  unfold TAOut
  rw [e1, e2, tkC_one, List.length_singleton]
  clear hR hS hd hd1 hx hg hb0 e1 e2
  obtain ⟨xk, xn, xt⟩ := x
  simp only at *
  rcases hk with rfl | rfl
  · go_enter Tryd.func57, Tryd.ntmps57
    go_wp2_with fail
    refine bodyPost_ret (v := .tuple #[.slice (some ⟨w.heap.size + 1, 0, none⟩) 1 1, .int .i64 ((p : Int) + 1)]) (by simp [results, Tryd.results57, go_sem]) rfl ⟨_, rfl, own_tk (leafT ⟨1, xn, xt⟩) (by omega) ?_, ((Below.refl _ _).alloc (Nat.le_refl _) _).alloc (by simp) _⟩
    have := heap_alloc_new (w.alloc (.cells #[.int .i64 1, .int .i64 xn, .string xt] 90)) (.cells #[.int .i64 1, .int .i64 xn, .string ⟨#[]⟩, .int .i64 0] 87)
    rw [World.size_alloc] at this
    exact this
  · go_enter Tryd.func57, Tryd.ntmps57
    go_wp2_with fail
    refine bodyPost_ret (v := .tuple #[.slice (some ⟨w.heap.size + 1, 0, none⟩) 1 1, .int .i64 ((p : Int) + 1)]) (by simp [results, Tryd.results57, go_sem]) rfl ⟨_, rfl, own_tk (leafT ⟨2, xn, xt⟩) (by omega) ?_, ((Below.refl _ _).alloc (Nat.le_refl _) _).alloc (by simp) _⟩
    have := heap_alloc_new (w.alloc (.cells #[.int .i64 2, .int .i64 xn, .string xt] 90)) (.cells #[.int .i64 2, .int .i64 0, .string xt, .int .i64 0] 87)
    rw [World.size_alloc] at this
    exact this
end Go.Proofs.YtjffignbiabmaaaDoor.W.T

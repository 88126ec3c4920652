/-
  Tokens of an expression: the model, and rows of tokens that grow. Conditions: none.
-/
import Derived.Test.YtjffignbiabmaaaDoorKids
import Derived.Test.YtjffignbiabmaaaDoorDoorS
import Derived.Test.YtjffignbiabmaaaDoorTokS
import Derived.Test.YtjffignbiabmaaaDoorApS
import Derived.Laws.AppendOwn
import Derived.Deep.AppendLies
import Derived.Deep.RegionLaw
import Derived.Deep.RegionHeld3
namespace Go.Proofs.YtjffignbiabmaaaDoor.W.T
open Go.ChangeShapes Go.WideShapes Go.ChangeAt Go.RowKit
set_option linter.unusedVariables false

/-- A sign as a token. -/
def sgT (t : ByteArray) : Tk := ⟨3, 0, t, 0⟩
def leafT (x : Xx) : Tk := if x.k = 1 then ⟨1, x.n, ⟨#[]⟩, 0⟩ else ⟨2, 0, x.t, 0⟩
def oneS (x : Xx) : ByteArray := if x.k = 3 then ⟨#[45]⟩ else ⟨#[33]⟩
def lL (n : Int) : Int := if n = 7 then n + 1 else n
def lR (n : Int) : Int := if n = 7 then n else n + 1
/-- The tokens of an expression, in brackets where it binds less strongly. -/
def tks : E → Int → List Tk
  | .leaf x, _ => [leafT x]
  | .one x a, _ => sgT (oneS x) :: tks a 8
  | .two x a b, least =>
    if strN x.t < least then sgT ⟨#[40]⟩ :: (tks a (lL (strN x.t)) ++ sgT x.t :: tks b (lR (strN x.t))) ++ [sgT ⟨#[41]⟩]
    else tks a (lL (strN x.t)) ++ sgT x.t :: tks b (lR (strN x.t))
theorem tks_len : ∀ (e : E) (m : Int), (tks e m).length ≤ 3 * e.flat.length ∧ 0 < (tks e m).length
  | .leaf x, m => by simp [tks, E.flat]
  | .one x a, m => by have := tks_len a 8; simp [tks, E.flat]; omega
  | .two x a b, m => by
    have h1 := tks_len a (lL (strN x.t))
    have h2 := tks_len b (lR (strN x.t))
    unfold tks
    split <;> simp [E.flat] <;> omega

def tkC1 (x : Tk) : List Value := [.int .i64 x.k, .int .i64 x.n, .string x.t, .int .i64 x.a]
def tkC (l : List Tk) : List Value := l.flatMap tkC1
theorem tkC_app (a b : List Tk) : tkC (a ++ b) = tkC a ++ tkC b := by simp [tkC]
theorem tkC_one (x : Tk) : tkC [x] = tkC1 x := by simp [tkC]
theorem tkC_cons (x : Tk) (l : List Tk) : tkC (x :: l) = tkC1 x ++ tkC l := by simp [tkC]
theorem tkC_len (l : List Tk) : (tkC l).length = l.length * 4 := by
  induction l with
  | nil => rfl
  | cons x l ih => rw [tkC_cons, List.length_append, ih]; simp [tkC1]; omega
theorem tkC1_oneC (x : Tk) : ∀ u ∈ tkC1 x, u.oneCell' = true := by
  intro u hu
  simp only [tkC1, List.mem_cons, List.not_mem_nil, or_false] at hu
  rcases hu with rfl | rfl | rfl | rfl <;> rfl
theorem tkC_oneC (l : List Tk) : ∀ u ∈ tkC l, u.oneCell' = true := by
  intro u hu
  simp only [tkC, List.mem_flatMap] at hu
  obtain ⟨x, -, hx⟩ := hu
  exact tkC1_oneC x u hx
theorem tk_news {w : World} {g : Nat} (x : Tk) {t : TypeId} (h : w.heap[g]? = some (.cells #[.int .i64 x.k, .int .i64 x.n, .string x.t, .int .i64 x.a] t (0, 0))) : ∀ j u, (tkC1 x)[j]? = some u → w.cell? ((⟨g, 0, none⟩ : Addr).add j) = some u := by
  intro j u hu
  have hj : j < 4 := by
    by_cases hj : j < 4
    · exact hj
    · rw [List.getElem?_eq_none (by simp [tkC1]; omega)] at hu; cases hu
  have : j = 0 ∨ j = 1 ∨ j = 2 ∨ j = 3 := by omega
  rcases this with rfl | rfl | rfl | rfl <;> simp [tkC1] at hu <;> subst hu <;> simp [Addr.add, World.cell?, h]
theorem infoTk : (Tryd.prog.info? 87).map (fun i => (i.zero, i.size, i.bytes)) = some (some (.agg #[.int .i64 0, .int .i64 0, .string ⟨#[]⟩, .int .i64 0]), 4, 40) := by kernel_rfl
theorem xOwn_form {w : World} {base n size : Nat} {e : TypeId} {v : Value} {xs : List Value} (h : w.ownsRow base e size v n xs) : ∃ ad c, v = .slice ad n c := by
  rcases h.2 with ⟨rfl, rfl⟩ | ⟨g, cap, cur, rfl, _⟩
  · exact ⟨none, 0, rfl⟩
  · exact ⟨_, cap, rfl⟩

theorem grownT {w w1 w2 : World} {r r' : Option Nat} (h1 : w.grownBy w1 r) (h2 : w1.grownBy w2 r') (hr : ∀ k, r' = some k → r = some k ∨ w.heap.size ≤ k) : w.grownBy w2 r :=
  ⟨h2.os.trans h1.os, h2.tape.trans h1.tape, h2.output.trans h1.output, Nat.le_trans h1.size h2.size, fun k hk hne => (h2.block k (Nat.lt_of_lt_of_le hk h1.size) (fun e => by
    rcases hr k e.symm with h | h
    · exact hne h.symm
    · omega)).trans (h1.block k hk hne)⟩
/-- A row has grown: in its own block, or in a new one; the rest is as it was. -/
structure GA (w : World) (v : Value) (w' : World) (v' : Value) : Prop where
  g : w.grownBy w' v.ownBlock
  a : Apart w v v'
theorem GA.refl (w : World) (v : Value) : GA w v w v := ⟨⟨rfl, rfl, rfl, Nat.le_refl _, fun _ _ _ => rfl⟩, fun _ h => .inl h⟩
theorem GA.trans {w w1 w2 : World} {v v1 v2 : Value} (h1 : GA w v w1 v1) (h2 : GA w1 v1 w2 v2) : GA w v w2 v2 := ⟨grownT h1.g h2.g (fun k hk => h1.a k hk), fun k hk => by
  have := h1.g.size
  rcases h2.a k hk with h | h
  · exact h1.a k h
  · exact .inr (by omega)⟩
theorem GA.alloc (w : World) (v : Value) (o : Obj) : GA w v (w.alloc o) v := ⟨World.grownBy_alloc w o _, fun _ h => .inl h⟩
theorem GA.drew (w : World) (v : Value) : GA w v w.drew v := ⟨⟨rfl, rfl, rfl, Nat.le_refl _, fun _ _ _ => rfl⟩, fun _ h => .inl h⟩
theorem GA.below {w w' : World} {v v' : Value} (h : GA w v w' v') {B : Nat} {w0 : World} (hb : Below B w0 w) (hB : B ≤ w.heap.size) (hr : ∀ k, v.ownBlock = some k → B ≤ k) : Below B w0 w' := hb.grown h.g hB hr
theorem GA.cell {w w' : World} {v v' : Value} (h : GA w v w' v') {b o : Nat} {x : Value} (hx : w.cell? ⟨b, o, none⟩ = some x) (hn : ∀ k, v.ownBlock = some k → k ≠ b) : w'.cell? ⟨b, o, none⟩ = some x := h.g.cell hx (fun e => hn b e.symm rfl)
theorem GA.ne {w w' : World} {v v' : Value} (h : GA w v w' v') {b : Nat} (hb : b < w.heap.size) (hn : ∀ k, v.ownBlock = some k → k ≠ b) : ∀ k, v'.ownBlock = some k → k ≠ b := fun k hk => by
  rcases h.a k hk with h | h
  · exact hn k h
  · omega
theorem GA.of {w w' : World} {v : Value} {g n c : Nat} (h : w.grownBy w' v.ownBlock) (ha : v.ownBlock = some g ∨ g = w.heap.size) : GA w v w' (.slice (some ⟨g, 0, none⟩) n c) := ⟨h, fun k hk => by
  simp only [Value.ownBlock, Option.some.injEq] at hk
  subst hk
  rcases ha with h | h
  · exact .inl h
  · exact .inr (by omega)⟩

/-- A token that lies in a block of its own is appended. -/
theorem wpList_append_tk {w : World} {ops : Array Oper} {rest : List Oper} {o : Oper} {a : Act} {Q : Exit → Act → World → Prop} (hgd : o.guard = none) (s y : Operand)
    (ho : o.op = .call { callee := .builtin .append, args := #[s, y], argTypes := #[71, 71] })
    (base : Nat) (v : Value) (n : Nat) (xs : List Value) (hs : a.eval s = v) (hown : w.ownsRow base 87 4 v n xs)
    (g c : Nat) (x : Tk) (hx : a.eval y = .slice (some ⟨g, 0, none⟩) 1 c) (hg : w.heap[g]? = some (.cells #[.int .i64 x.k, .int .i64 x.n, .string x.t, .int .i64 x.a] 87))
    (hn : n ≤ 1000000) (hbase : base ≤ w.heap.size)
    (h : ∀ v' w', w'.ownsRow base 87 4 v' (n + 1) (xs ++ tkC1 x) → GA w v w' v' → wpList Tryd.prog ops Q rest (a.put o.dst v') w') : wpList Tryd.prog ops Q (o :: rest) a w := by
  obtain ⟨i0, hi0, hz0, hz1, hz2⟩ := infoParts infoTk
  exact wpList_append_sep hgd s y 71 ho base 87 i0 (.agg #[.int .i64 0, .int .i64 0, .string ⟨#[]⟩, .int .i64 0]) 4 40 Tryd.underlying71 hi0 hz0 hz1 hz2 rfl (by decide) v n xs hs hown ⟨g, 0, none⟩ 1 c (tkC1 x) hx rfl (tk_news x hg) (tkC1_oneC x) (by unfold maxLen; omega) (by omega) hbase (fun v' w' h1 h2 h3 => h v' w' h1 ⟨h2, h3⟩)

/-- A row of tokens is appended. -/
theorem wpList_append_tks {w : World} {ops : Array Oper} {rest : List Oper} {o : Oper} {a : Act} {Q : Exit → Act → World → Prop} (hgd : o.guard = none) (s y : Operand)
    (ho : o.op = .call { callee := .builtin .append, args := #[s, y], argTypes := #[71, 71] })
    (base : Nat) (v : Value) (n : Nat) (xs : List Value) (hs : a.eval s = v) (hown : w.ownsRow base 87 4 v n xs)
    (b2 : Nat) (v2 : Value) (m : Nat) (ys : List Value) (hx : a.eval y = v2) (hown2 : w.ownsRow b2 87 4 v2 m ys) (h1 : ∀ u ∈ ys, u.oneCell' = true)
    (hn : n ≤ 1000000) (hm : m ≤ 1000000) (hm0 : 0 < m) (hbase : base ≤ w.heap.size)
    (h : ∀ v' w', w'.ownsRow base 87 4 v' (n + m) (xs ++ ys) → GA w v w' v' → wpList Tryd.prog ops Q rest (a.put o.dst v') w') : wpList Tryd.prog ops Q (o :: rest) a w := by
  obtain ⟨i0, hi0, hz0, hz1, hz2⟩ := infoParts infoTk
  obtain ⟨g, cap, rfl, -⟩ := own_some hown2 hm0
  exact wpList_append_sep hgd s y 71 ho base 87 i0 (.agg #[.int .i64 0, .int .i64 0, .string ⟨#[]⟩, .int .i64 0]) 4 40 Tryd.underlying71 hi0 hz0 hz1 hz2 rfl (by decide) v n xs hs hown ⟨g, 0, none⟩ m cap ys hx hown2.1 (hown2.cells (g := g) rfl) h1 (by unfold maxLen; omega) (by omega) hbase (fun v' w' h1 h2 h3 => h v' w' h1 ⟨h2, h3⟩)

/-- A token that lies in a block of its own is appended: a step of a region that draws. -/
theorem step_append_tk {w : World} {ops : Array Oper} {o : Oper} {a : Act} {K : Act → World → Prop} {Q : Exit → Act → World → Prop} {E : Prop} (hgd : o.guard = none) (s y : Operand)
    (ho : o.op = .call { callee := .builtin .append, args := #[s, y], argTypes := #[71, 71] })
    (base : Nat) (v : Value) (n : Nat) (xs : List Value) (hs : a.eval s = v) (hown : w.ownsRow base 87 4 v n xs)
    (g c : Nat) (x : Tk) (hx : a.eval y = .slice (some ⟨g, 0, none⟩) 1 c) (hg : w.heap[g]? = some (.cells #[.int .i64 x.k, .int .i64 x.n, .string x.t, .int .i64 x.a] 87))
    (hn : n ≤ 1000000) (hbase : base ≤ w.heap.size)
    (h : ∀ g' cap w', w'.ownsRow base 87 4 (.slice (some ⟨g', 0, none⟩) (n + 1) cap) (n + 1) (xs ++ tkC1 x) → GA w v w' (.slice (some ⟨g', 0, none⟩) (n + 1) cap) → K (a.put o.dst (.slice (some ⟨g', 0, none⟩) (n + 1) cap)) w') :
    if Region.wanted o (yielded ops a.tmps) = true then Oper.wp Tryd.prog o a w K Q else E := by
  obtain ⟨i0, hi0, hz0, hz1, hz2⟩ := infoParts infoTk
  exact step_append_lies w hgd s y 71 ho base 87 i0 (.agg #[.int .i64 0, .int .i64 0, .string ⟨#[]⟩, .int .i64 0]) 4 40 Tryd.underlying71 hi0 hz0 hz1 hz2 rfl (by decide) v n xs hs hown ⟨g, 0, none⟩ 1 c (tkC1 x) hx rfl (tk_news x hg) (tkC1_oneC x) (by decide) (by unfold maxLen; omega) (by omega) hbase _ rfl (fun g' cap w' h1 h2 h3 _ => h g' cap w' h1 (GA.of h2 h3))

/-- A row of tokens is appended: a step of a region that draws. -/
theorem step_append_tks {w : World} {ops : Array Oper} {o : Oper} {a : Act} {K : Act → World → Prop} {Q : Exit → Act → World → Prop} {E : Prop} (hgd : o.guard = none) (s y : Operand)
    (ho : o.op = .call { callee := .builtin .append, args := #[s, y], argTypes := #[71, 71] })
    (base : Nat) (v : Value) (n : Nat) (xs : List Value) (hs : a.eval s = v) (hown : w.ownsRow base 87 4 v n xs)
    (b2 : Nat) (v2 : Value) (m : Nat) (ys : List Value) (hx : a.eval y = v2) (hown2 : w.ownsRow b2 87 4 v2 m ys) (h1 : ∀ u ∈ ys, u.oneCell' = true)
    (hn : n ≤ 1000000) (hm : m ≤ 1000000) (hm0 : 0 < m) (hbase : base ≤ w.heap.size)
    (h : ∀ g' cap w', w'.ownsRow base 87 4 (.slice (some ⟨g', 0, none⟩) (n + m) cap) (n + m) (xs ++ ys) → GA w v w' (.slice (some ⟨g', 0, none⟩) (n + m) cap) → K (a.put o.dst (.slice (some ⟨g', 0, none⟩) (n + m) cap)) w') :
    if Region.wanted o (yielded ops a.tmps) = true then Oper.wp Tryd.prog o a w K Q else E := by
  obtain ⟨i0, hi0, hz0, hz1, hz2⟩ := infoParts infoTk
  obtain ⟨g, cap, rfl, -⟩ := own_some hown2 hm0
  exact step_append_lies w hgd s y 71 ho base 87 i0 (.agg #[.int .i64 0, .int .i64 0, .string ⟨#[]⟩, .int .i64 0]) 4 40 Tryd.underlying71 hi0 hz0 hz1 hz2 rfl (by decide) v n xs hs hown ⟨g, 0, none⟩ m cap ys hx hown2.1 (hown2.cells (g := g) rfl) h1 hm0 (by unfold maxLen; omega) (by omega) hbase _ rfl (fun g' cap w' h1 h2 h3 _ => h g' cap w' h1 (GA.of h2 h3))
theorem belowDrew {B : Nat} {x y : World} (h : Below B x y) : Below B x y.drew := ⟨h.os, h.tape, h.output, h.size, h.block⟩
end Go.Proofs.YtjffignbiabmaaaDoor.W.T

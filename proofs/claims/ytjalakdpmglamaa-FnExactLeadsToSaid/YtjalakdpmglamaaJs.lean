/-
  Some texts of this proof in one: TeKw, TeSq.
-/
import Derived.Test.YtjalakdpmglamaaJr
import Derived.Test.YtjalakdpmglamaaJp
/-
  A term in the place of a kid: a contract of l4With. Conditions: good terms.
-/
namespace Go.Proofs.Ytjalakdpmglamaa.W
open Go.ChangeShapes Go.WideShapes Go.ChangeAt Go.RowKit
set_option linter.unusedVariables false

theorem KidsAt.one {w : World} {P : Nat → Prop} : ∀ {a : F} {cs : List Value}, KidsAt w P a cs → ∀ u ∈ cs, u.oneCell' = true
  | .nil, _, h => by rw [show _ = [] from h]; simp
  | .cons x k r, _, ⟨s, cr, e, h2, h3⟩ => by
    have i := KidsAt.one h3
    rw [e]
    intro u hu
    rcases List.mem_append.1 hu with hu | hu
    · exact tC_one x s (KidT.one (a := k) h2) u hu
    · exact i u hu

theorem own0 {W : World} {B E : Nat} (h : W.heap[E]? = some (.cells #[] 32 (0, 0))) (hE : B ≤ E) : W.ownsRow B 32 3 (.slice (some ⟨E, 0, none⟩) 0 0) 0 [] := ⟨rfl, .inr ⟨E, 0, #[], rfl, hE, h, Nat.le_refl _, by unfold maxLen; omega, rfl, rfl⟩⟩
theorem tOwn_set {w : World} {base n size g cap O : Nat} {e : TypeId} {xs : List Value} (h : w.ownsRow base e size (.slice (some ⟨g, 0, none⟩) n cap) n xs) (hg : g ≠ O) (i : Nat) (v : Value) : (w.setCell ⟨O, i, none⟩ v).ownsRow base e size (.slice (some ⟨g, 0, none⟩) n cap) n xs := by
  refine ⟨h.1, ?_⟩
  rcases h.2 with ⟨h0, -⟩ | ⟨g', cap', cur, hv, hb, hh, rest⟩
  · cases h0
  · have hv' := hv
    simp only [Value.slice.injEq, Option.some.injEq, Addr.mk.injEq] at hv'
    obtain ⟨⟨rfl, -, -⟩, -, rfl⟩ := hv'
    exact .inr ⟨g, cap, cur, rfl, hb, by rw [Below.heap_setCell _ _ _ _ hg]; exact hh, rest⟩
theorem at_le {A E g H : Nat} (h : some E = some g ∨ g = H) (h1 : A ≤ E) (h2 : A ≤ H) : A ≤ g := by
  rcases h with h | h
  · simp only [Option.some.injEq] at h; omega
  · omega
theorem at_ne {E g H O : Nat} (h : some E = some g ∨ g = H) (h1 : E ≠ O) (h2 : H ≠ O) : g ≠ O := by
  rcases h with h | h
  · simp only [Option.some.injEq] at h; omega
  · omega
/-- Three cells of a row put anew. -/
theorem row_put {cur : Array Value} {ca cr : List Value} {u0 u1 u2 v0 v1 v2 : Value} {N : Nat} (h : cur.toList.take N = ca ++ ([u0, u1, u2] ++ cr)) (hs : N ≤ cur.size) :
    ∀ (j : Nat) (v : Value), (ca ++ ([v0, v1, v2] ++ cr))[j]? = some v → (((cur.setIfInBounds ca.length v0).setIfInBounds (ca.length + 1) v1).setIfInBounds (ca.length + 2) v2)[j]? = some v := by
  have hN : N = ca.length + (3 + cr.length) := by
    have := congrArg List.length h
    rw [List.length_take] at this
    simp at this
    omega
  have hc : ∀ j : Nat, j < N → cur[j]? = (ca ++ ([u0, u1, u2] ++ cr))[j]? := fun j hj => by rw [← h, List.getElem?_take_of_lt hj]; simp
  intro j v hv
  have hj : j < N := by have := (List.getElem?_eq_some_iff.1 hv).1; simp at this; omega
  simp only [Array.getElem?_setIfInBounds, Array.size_setIfInBounds]
  by_cases h2 : ca.length + 2 = j
  · subst h2
    rw [if_pos rfl, if_pos (by omega), ← hv, List.getElem?_append_right (by omega)]
    simp
  · rw [if_neg h2]
    by_cases h1 : ca.length + 1 = j
    · subst h1
      rw [if_pos rfl, if_pos (by omega), ← hv, List.getElem?_append_right (by omega)]
      simp
    · rw [if_neg h1]
      by_cases h0 : ca.length = j
      · subst h0
        rw [if_pos rfl, if_pos (by omega), ← hv, List.getElem?_append_right (by omega)]
        simp
      · rw [if_neg h0, hc j hj, ← hv]
        by_cases hlt : j < ca.length
        · rw [List.getElem?_append_left hlt, List.getElem?_append_left hlt]
        · have he : ∀ q0 q1 q2 : Value, (ca ++ ([q0, q1, q2] ++ cr))[j]? = cr[j - ca.length - 3]? := fun q0 q1 q2 => by
            rw [List.getElem?_append_right (by omega), List.getElem?_append_right (by show 3 ≤ j - ca.length; omega)]
            rfl
          rw [he, he]
theorem blk_new1 (w0 : World) (o1 o2 : Obj) : ((w0.alloc o1).alloc o2).drew.heap[w0.heap.size + 1]? = some o2 := by
  have := heap_alloc_new (w0.alloc o1) o2
  rw [World.size_alloc] at this
  exact this
theorem blk_old1 (w0 : World) (o1 o2 : Obj) : ((w0.alloc o1).alloc o2).drew.heap[w0.heap.size]? = some o1 := (heap_alloc_old (w0.alloc o1) o2 (by simp)).trans (heap_alloc_new w0 o1)
theorem news0 {w W : World} {g : Nat} {ck : List Value} (hg : g < w.heap.size) (h : ∀ j v, ck[j]? = some v → w.cell? ⟨g, j, none⟩ = some v) (hb : Below w.heap.size w W) : ∀ j u, ck[j]? = some u → W.cell? ((⟨g, 0, none⟩ : Addr).add j) = some u := fun j u hu => by
  rw [iAdd, Nat.zero_add]
  exact (hb.cell (p := ⟨g, j, none⟩) hg).trans (h j u hu)
end Go.Proofs.Ytjalakdpmglamaa.W

/-
  All steps by the specification: the model's other face, and a row of trees that grows. No program here but types.
-/
namespace Go.Proofs.Ytjalakdpmglamaa.W
open Go.ChangeShapes Go.WideShapes Go.ChangeAt Go.RowKit
set_option linter.unusedVariables false

def sv (a : F) : List (Option F) := (sk a).map fun q => q.2
def shv (x : Cc) (k : F) : List (Option (Cc × F)) := (sh x k).map fun q => q.2
/-- A term's own contraction. -/
def ownR (x : Cc) (k : F) : List (Option (Cc × F)) := if redx x k = true then [ctrO x k] else []
theorem shv_eq (x : Cc) (k : F) : shv x k = ownR x k ++ (sv k).map (Option.map fun k' => (x, k')) := by
  unfold shv sh sv ownR
  by_cases hr : redx x k = true
  · rw [if_pos hr, if_pos hr]; simp [Function.comp_def]
  · rw [if_neg hr, if_neg hr]; simp [Function.comp_def]
theorem sv_cons (y : Cc) (ky r : F) : sv (.cons y ky r) = (shv y ky).map (Option.map fun p : Cc × F => F.cons p.1 p.2 r) ++ (sv r).map (Option.map fun r' => F.cons y ky r') := by
  rw [shv_eq]
  unfold sv ownR
  rw [sk_cons]
  by_cases hr : redx y ky = true
  · rw [if_pos hr, if_pos hr]; simp [Function.comp_def]
  · rw [if_neg hr, if_neg hr]; simp [Function.comp_def]
theorem coll_map {α β : Type} (f : α → β) : ∀ l : List (Option α), coll (l.map (Option.map f)) = (coll l).map (List.map f)
  | [] => rfl
  | o :: r => by
    cases o with
    | none => rfl
    | some x =>
      simp only [List.map_cons, Option.map_some, coll, coll_map f r]
      cases coll r <;> simp
theorem sh_len {x : Cc} {k : F} (h : okT x k) : (shv x k).length ≤ k.flat.length + 1 := by
  have h1 := congrArg List.length (steps_one h).1
  have h2 := plUp_len (x :: k.flat) (x :: k.flat).length
  unfold pls at h1
  unfold shv
  simp only [List.length_map, List.length_cons] at h1 h2 ⊢
  omega
theorem shv_flat {x : Cc} {k : F} (hok : okT x k) (hl : k.flat.length + 1 ≤ 600) {p : Cc × F} (h : some p ∈ shv x k) : p.2.flat.length + 1 ≤ 1200 := by
  unfold shv at h
  obtain ⟨q, hq, he⟩ := List.mem_map.1 h
  obtain ⟨pre, y, ky, post, h1, h2, h3, h4, h5⟩ := (steps_one hok).2 q hq
  rw [he] at h5
  cases hc : ctrO y ky with
  | none => rw [hc] at h5; cases h5
  | some q' =>
    rw [hc] at h5
    simp only [Option.map_some, Option.some.injEq] at h5
    have e1 := congrArg List.length h1
    have e2 := congrArg List.length h5
    simp at e1 e2
    have := ctrO_len h3 h4 (by omega) hc
    omega
/-- Terms as a row. -/
def toF : List (Cc × F) → F
  | [] => .nil
  | p :: r => .cons p.1 p.2 (toF r)
theorem toF_app : ∀ a b : List (Cc × F), toF (a ++ b) = (toF a).app (toF b)
  | [], b => rfl
  | p :: r, b => by simp [toF, F.app, toF_app r b]
theorem toF_len : ∀ a : List (Cc × F), (toF a).len = a.length
  | [] => rfl
  | p :: r => by simp [toF, F.len, toF_len r]

/-- Where the trees of a growing row may lie. -/
def Qo (b0 : Nat) (P : Nat → Prop) (v : Value) (g : Nat) : Prop := (P g ∧ g < b0) ∨ (b0 ≤ g ∧ v.ownBlock ≠ some g)
/-- A growing row of trees. -/
structure OT (w : World) (b0 : Nat) (P : Nat → Prop) (v : Value) (L : List (Cc × F)) (cs : List Value) : Prop where
  kids : KidsAt w (Qo b0 P v) (toF L) cs
  own : w.ownsRow b0 32 3 v L.length cs
  nil : L = [] → v = .slice none 0 0
theorem OT.start (w : World) (b0 : Nat) (P : Nat → Prop) : OT w b0 P (.slice none 0 0) [] [] := ⟨rfl, World.ownsRow_nil _ _ _ _, fun _ => rfl⟩
theorem OT.far {w : World} {b0 : Nat} {P : Nat → Prop} {v : Value} {L : List (Cc × F)} {cs : List Value} (h : OT w b0 P v L cs) {g : Nat} (hq : Qo b0 P v g) : v.ownBlock ≠ some g := by
  rcases hq with h1 | h1
  · intro e; have := (h.own.lt g e).1; omega
  · exact h1.2
theorem OT.below {w w' : World} {b0 : Nat} {P : Nat → Prop} {v : Value} {L : List (Cc × F)} {cs : List Value} (h : OT w b0 P v L cs) (hb : Below w.heap.size w w') : OT w' b0 P v L cs :=
  ⟨h.kids.keep hb.size (fun g h1 h2 => ⟨hb.block g h2, h1⟩), tOwn_keep h.own (fun k _ hk => hb.block k hk), h.nil⟩
/-- A tree more. -/
theorem OT.more {wr w5 w6 : World} {b0 : Nat} {P R : Nat → Prop} {v v' s5 : Value} {L : List (Cc × F)} {cs : List Value} {B : Obj} {p : Cc × F} (h : OT wr b0 P v L cs) (hb : b0 ≤ wr.heap.size) (h5 : Below wr.heap.size wr w5) (hT : KidT w5 R p.2 s5)
    (hR : ∀ g, R g → g < w5.heap.size → Qo b0 P v g) (ho : w6.ownsRow b0 32 3 v' (L.length + 1) (cs ++ tC p.1 s5)) (hg : (w5.alloc B).grownBy w6 v.ownBlock) (hap : Apart (w5.alloc B) v v') :
    OT w6 b0 P v' (L ++ [p]) (cs ++ tC p.1 s5) ∧ Below b0 wr w6 ∧ (∀ g, g < w5.heap.size → v.ownBlock ≠ some g → w6.heap[g]? = w5.heap[g]?) := by
  have hs5 := h5.size
  have hs6 : w5.heap.size + 1 ≤ w6.heap.size := by have := hg.size; simpa using this
  have hk6 : ∀ g, g < w5.heap.size → v.ownBlock ≠ some g → w6.heap[g]? = w5.heap[g]? := fun g hlt hn => by
    rw [hg.block g (by simp; omega) (fun e => hn e.symm), heap_alloc_old _ _ hlt]
  have hq : ∀ g, g < w5.heap.size → Qo b0 P v g → v.ownBlock ≠ some g → Qo b0 P v' g := fun g hlt h1 hn => by
    rcases h1 with h1 | h1
    · exact .inl h1
    · refine .inr ⟨h1.1, fun e => ?_⟩
      rcases hap g e with h2 | h2
      · exact hn h2
      · simp at h2; omega
  refine ⟨⟨?_, ?_, fun e => by simp at e⟩, ⟨hg.os.trans h5.os, hg.tape.trans h5.tape, hg.output.trans h5.output, by omega, fun k hk => ?_⟩, hk6⟩
  · rw [toF_app]
    refine KidsAt.app (h.kids.keep (by omega) (fun g h1 h2 => ⟨?_, hq g (by omega) h1 (h.far h1)⟩)) ⟨s5, [], (List.append_nil _).symm, ?_, rfl⟩
    · rw [hk6 g (by omega) (h.far h1), h5.block g h2]
    · exact hT.keep (by omega) (fun g h1 h2 => ⟨hk6 g h2 (h.far (hR g h1 h2)), hq g h2 (hR g h1 h2) (h.far (hR g h1 h2))⟩)
  · rw [List.length_append, List.length_singleton]; exact ho
  · rw [hk6 k (by omega) (fun e => by have := (h.own.lt k e).1; omega), h5.block k (by omega)]
/-- .. as it is handed out. -/
theorem OT.kidT {w : World} {b0 : Nat} {P Q : Nat → Prop} {v : Value} {L : List (Cc × F)} {cs : List Value} (h : OT w b0 P v L cs) (hP : ∀ g, (P g ∧ g < b0) ∨ b0 ≤ g → Q g) : KidT w Q (toF L) v := by
  refine ⟨cs, h.kids.keep (Nat.le_refl _) (fun g h1 _ => ⟨rfl, hP g (h1.imp id (fun h => h.1))⟩), ?_⟩
  rw [toF_len]
  by_cases e : L = []
  · subst e; exact .inl ⟨rfl, h.nil rfl⟩
  · have hp : 0 < L.length := List.length_pos_iff.2 e
    obtain ⟨g, cap, e1, e2, e3, e4⟩ := tOwn_lies h.own hp
    exact .inr ⟨hp, g, cap, e1, hP g (.inr e2), e3, e4⟩
theorem kid_old {w : World} {P : Nat → Prop} {a : F} {s : Value} (h : KidT w P a s) : KidT w (fun g => P g ∧ g < w.heap.size) a s := h.weak (fun k h1 h2 => ⟨h1, h2⟩)
end Go.Proofs.Ytjalakdpmglamaa.W

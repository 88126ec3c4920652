/-
  The specification's rows of patterns in memory: slices that may begin anywhere, and may be empty anywhere; what is appended. No program here.
-/
import Derived.Test.YtfepljcblajfpabMsP
import Derived.Maps.AppendAt
import Derived.Laws.OwnMore
namespace Go.Proofs.Ytfepljcblajfpab.W
open Go.ChangeShapes Go.WideShapes Go.ChangeAt Go.RowKit
set_option linter.unusedVariables false
set_option linter.unusedSimpArgs false

/-- A slice of n elements whose cells are these, in a block of this kind. -/
def SL (w : World) (P : Nat → Prop) (s : Value) (n : Nat) (cs : List Value) : Prop :=
  (s = .slice none 0 0 ∧ n = 0) ∨ ∃ g o c, s = .slice (some ⟨g, o, none⟩) n c ∧ (n = 0 ∨ P g ∧ g < w.heap.size) ∧ ∀ j v, cs[j]? = some v → w.cell? ⟨g, o + j, none⟩ = some v
def GAt (w : World) (P : Nat → Prop) : F → List Value → Prop
  | .nil, cs => cs = []
  | .cons x k r, cs => ∃ s cr, cs = tC x s ++ cr ∧ (∃ ck, GAt w P k ck ∧ SL w P s k.len ck) ∧ GAt w P r cr
/-- Patterns in a row lie in memory. -/
def GT (w : World) (P : Nat → Prop) (a : F) (s : Value) : Prop := ∃ ck, GAt w P a ck ∧ SL w P s a.len ck

theorem GAt.len {w : World} {P : Nat → Prop} : ∀ {a : F} {cs : List Value}, GAt w P a cs → cs.length = a.len * 2
  | .nil, _, h => by rw [h]; rfl
  | .cons _ _ r, _, ⟨s, cr, e, _, h3⟩ => by
    have := GAt.len h3
    rw [e]; simp [tC, F.len, this]; omega
theorem SL.keep {w w' : World} {P P' : Nat → Prop} {s : Value} {n z : Nat} {cs : List Value} (h : SL w P s n cs) (hl : cs.length = n * z) (hs : w.heap.size ≤ w'.heap.size) (hk : ∀ k, P k → k < w.heap.size → w'.heap[k]? = w.heap[k]? ∧ P' k) : SL w' P' s n cs := by
  rcases h with h | ⟨g, o, c, h1, h3, h4⟩
  · exact .inl h
  · refine .inr ⟨g, o, c, h1, ?_, fun j v hj => ?_⟩
    · rcases h3 with h3 | ⟨h3, h5⟩
      · exact .inl h3
      · exact .inr ⟨(hk g h3 h5).2, Nat.lt_of_lt_of_le h5 hs⟩
    · rcases h3 with h3 | ⟨h3, h5⟩
      · have := (List.getElem?_eq_some_iff.1 hj).1
        rw [hl, h3] at this
        simp at this
      · exact (World.cell?_of_block (a := ⟨g, o + j, none⟩) (hk g h3 h5).1).trans (h4 j v hj)
theorem GAt.keep {w w' : World} {P P' : Nat → Prop} (hs : w.heap.size ≤ w'.heap.size) (hk : ∀ k, P k → k < w.heap.size → w'.heap[k]? = w.heap[k]? ∧ P' k) : ∀ {a : F} {cs : List Value}, GAt w P a cs → GAt w' P' a cs
  | .nil, _, h => h
  | .cons _ _ _, _, ⟨s, cr, e, ⟨ck, h1, h2⟩, h3⟩ => ⟨s, cr, e, ⟨ck, GAt.keep hs hk h1, h2.keep h1.len hs hk⟩, GAt.keep hs hk h3⟩
theorem GT.keep {w w' : World} {P P' : Nat → Prop} {a : F} {s : Value} (h : GT w P a s) (hs : w.heap.size ≤ w'.heap.size) (hk : ∀ k, P k → k < w.heap.size → w'.heap[k]? = w.heap[k]? ∧ P' k) : GT w' P' a s := by
  obtain ⟨ck, h1, h2⟩ := h
  exact ⟨ck, h1.keep hs hk, h2.keep h1.len hs hk⟩
theorem GT.below {w w' : World} {P : Nat → Prop} {a : F} {s : Value} (h : GT w P a s) (hb : Below w.heap.size w w') : GT w' P a s := h.keep hb.size (fun k hp hk => ⟨hb.block k hk, hp⟩)
theorem GT.weak {w : World} {P P' : Nat → Prop} {a : F} {s : Value} (h : GT w P a s) (hp : ∀ k, P k → k < w.heap.size → P' k) : GT w P' a s := h.keep (Nat.le_refl _) (fun k h1 h2 => ⟨rfl, hp k h1 h2⟩)
theorem GAt.app {w : World} {P : Nat → Prop} : ∀ {a b : F} {ca cb : List Value}, GAt w P a ca → GAt w P b cb → GAt w P (a.app b) (ca ++ cb)
  | .nil, b, ca, cb, h, hb => by rw [show ca = [] from h]; exact hb
  | .cons _ _ r, b, ca, cb, ⟨s, cr, e, h2, h3⟩, hb => ⟨s, cr ++ cb, by rw [e, List.append_assoc], h2, GAt.app h3 hb⟩
theorem GAt.split {w : World} {P : Nat → Prop} : ∀ {a b : F} {cs : List Value}, GAt w P (a.app b) cs → ∃ ca cb, cs = ca ++ cb ∧ GAt w P a ca ∧ GAt w P b cb
  | .nil, b, cs, h => ⟨[], cs, rfl, rfl, h⟩
  | .cons _ _ r, b, cs, ⟨s, cr, e, h2, h3⟩ => by
    obtain ⟨ca, cb, e2, ha, hb⟩ := GAt.split h3
    exact ⟨tC _ s ++ ca, cb, by rw [e, e2, List.append_assoc], ⟨s, ca, rfl, h2, ha⟩, hb⟩
theorem GT.form {w : World} {P : Nat → Prop} {a : F} {s : Value} (h : GT w P a s) : ∃ ad c, s = .slice ad a.len c := by
  obtain ⟨ck, _, ⟨e, e0⟩ | ⟨g, o, c, e, _⟩⟩ := h
  · exact ⟨_, _, by rw [e0]; exact e⟩
  · exact ⟨_, _, e⟩
theorem GT.one {w : World} {P : Nat → Prop} {a : F} {s : Value} (h : GT w P a s) : s.oneCell' = true := by
  obtain ⟨ad, c, rfl⟩ := h.form
  rfl
theorem GAt.one {w : World} {P : Nat → Prop} : ∀ {a : F} {cs : List Value}, GAt w P a cs → ∀ u ∈ cs, u.oneCell' = true
  | .nil, _, h => by rw [h]; intro u hu; cases hu
  | .cons x k r, _, ⟨s, cr, e, h2, h3⟩ => by
    rw [e]
    intro u hu
    rcases List.mem_append.1 hu with hu | hu
    · exact tC_one x s (GT.one h2) u hu
    · exact GAt.one h3 u hu
theorem GT.nil {w : World} {P : Nat → Prop} : GT w P .nil (.slice none 0 0) := ⟨[], rfl, .inl ⟨rfl, rfl⟩⟩
theorem Holds.sl {w : World} {P : Nat → Prop} {s : Value} {n : Nat} {cs : List Value} (h : Holds w P s n cs) : SL w P s n cs := by
  rcases h with ⟨h1, h2⟩ | ⟨h1, g, cap, h2, h3, h4, h5⟩
  · exact .inl ⟨h2, h1⟩
  · exact .inr ⟨g, 0, cap, h2, .inr ⟨h3, h4⟩, fun j v hj => by rw [Nat.zero_add]; exact h5 j v hj⟩
theorem KidsAt.ga {w : World} {P : Nat → Prop} : ∀ {a : F} {cs : List Value}, KidsAt w P a cs → GAt w P a cs
  | .nil, _, h => h
  | .cons _ _ _, _, ⟨s, cr, e, ⟨ck, h1, h2⟩, h3⟩ => ⟨s, cr, e, ⟨ck, KidsAt.ga h1, h2.sl⟩, KidsAt.ga h3⟩
theorem KidT.gt {w : World} {P : Nat → Prop} {a : F} {s : Value} (h : KidT w P a s) : GT w P a s := by
  obtain ⟨ck, h1, h2⟩ := h
  exact ⟨ck, h1.ga, h2.sl⟩
/-- A slice is no longer than its block allows. -/
def Cap (s : Value) : Prop := ∀ ad m c, s = .slice ad m c → m ≤ c
theorem own_cap {w : World} {base n size : Nat} {e : TypeId} {v : Value} {xs : List Value} (h : w.ownsRow base e size v n xs) : Cap v := by
  rcases h.2 with ⟨h1, h2⟩ | ⟨g, cap, cur, h1, hg, hh, hc, _⟩
  · intro ad m c e; rw [h1] at e; simp at e; omega
  · intro ad m c e; rw [h1] at e; simp at e; omega
/-- The first pattern. -/
theorem GT.head {w : World} {P : Nat → Prop} {x : Pt} {k r : F} {s : Value} (h : GT w P (.cons x k r) s) (hca : Cap s) : ∃ g o c sx, s = .slice (some ⟨g, o, none⟩) (r.len + 1) c ∧ r.len + 1 ≤ c ∧ P g ∧ g < w.heap.size ∧ GT w P k sx ∧ w.cell? ⟨g, o, none⟩ = some (.int .i64 (tcon x)) ∧ w.cell? ⟨g, o + 1, none⟩ = some sx ∧
    ∀ q, (c = 1 ∨ q = o + 2) → GT w P r (.slice (some ⟨g, q, none⟩) r.len (c - 1)) := by
  obtain ⟨ck, ⟨sx, cr, e, h2, h3⟩, ⟨e1, e0⟩ | ⟨g, o, c, e1, hg, hcell⟩⟩ := h
  · simp [F.len] at e0
  · have hl : (F.cons x k r).len = r.len + 1 := by simp [F.len]
    rw [hl] at e1 hg
    have hc := hca _ _ _ e1
    obtain ⟨hP, hlt⟩ : P g ∧ g < w.heap.size := by rcases hg with hg | hg; omega; exact hg
    refine ⟨g, o, c, sx, e1, hc, hP, hlt, h2, ?_, ?_, fun q hq => ⟨cr, h3, .inr ⟨g, q, c - 1, rfl, ?_, fun j v hj => ?_⟩⟩⟩
    · have := hcell 0 (.int .i64 (tcon x)) (by rw [e]; rfl)
      exact this
    · have := hcell 1 sx (by rw [e]; rfl)
      exact this
    · by_cases hr : r.len = 0
      · exact .inl hr
      · exact .inr ⟨hP, hlt⟩
    · rcases hq with hq | hq
      · have h0 : r.len = 0 := by omega
        have := (List.getElem?_eq_some_iff.1 hj).1
        rw [h3.len, h0] at this
        simp at this
      · have := hcell (2 + j) v (by rw [e, List.getElem?_append_right (by simp [tC])]; simpa [tC] using hj)
        rw [hq, Nat.add_assoc]
        exact this
/-- What an append is handed. -/
def Sc (w : World) (v : Value) (m size : Nat) (news : List Value) : Prop := news.length = m * size ∧ (∀ u ∈ news, u.oneCell' = true) ∧ ((v = .slice none 0 0 ∧ m = 0) ∨ ∃ ad c, v = .slice (some ad) m c ∧ ∀ j u, news[j]? = some u → w.cell? (ad.add j) = some u)
theorem GT.sc {w : World} {P : Nat → Prop} {a : F} {s : Value} (h : GT w P a s) : ∃ ck, GAt w P a ck ∧ Sc w s a.len 2 ck := by
  obtain ⟨ck, h1, h2⟩ := h
  refine ⟨ck, h1, h1.len, h1.one, ?_⟩
  rcases h2 with ⟨h2, h3⟩ | ⟨g, o, c, h2, h4, h5⟩
  · exact .inl ⟨h2, h3⟩
  · exact .inr ⟨_, _, h2, fun j u hj => by rw [Addr.add_lit]; exact h5 j u hj⟩
theorem run_app {P : Program} (w : World) (t ty : TypeId) (base : Nat) (e : TypeId) (i : TypeInfo) (z : Value) (size bytes : Nat) (ht : P.underlying t = some (.slice e)) (hi : P.info? e = some i) (hz : i.zero = some z)
    (hsize : i.size = size) (hby : i.bytes = bytes) (hzs : z.cells.size = size) (hsz : 0 < size)
    (v : Value) (n : Nat) (xs : List Value) (hown : w.ownsRow base e size v n xs) (v2 : Value) (m : Nat) (news : List Value) (hs : Sc w v2 m size news)
    (h63 : n + m ≤ maxLen) (hbytes : (n + m) * bytes ≤ 140737488355328) (hbase : base ≤ w.heap.size) :
    ∃ v' w', (Builtin.append_ #[t, t] ty #[v, v2]).run P w = .ok v' w' ∧ w'.ownsRow base e size v' (n + m) (xs ++ news) ∧ w.grownBy w' v.ownBlock ∧ ∀ k, v'.ownBlock = some k → v.ownBlock = some k ∨ k = w.heap.size := by
  obtain ⟨hl, h1, ⟨rfl, rfl⟩ | ⟨ad, c, rfl, hnews⟩⟩ := hs
  · have h0 : news = [] := List.length_eq_zero_iff.1 (by rw [hl]; simp)
    subst h0
    refine ⟨v, w, run_append_owned_none w base t ty e i size ht hi v n xs hown, by simpa using hown, ⟨rfl, rfl, rfl, Nat.le_refl _, fun _ _ _ => rfl⟩, fun k hk => .inl hk⟩
  · obtain ⟨v', w', hr, h2, h3, -, h5⟩ := run_append_own_at (P := P) w base t ty e i z size bytes ht hi hz hsize hby hzs hsz v n xs hown ad m c news hl hnews h1 h63 hbytes hbase
    refine ⟨v', w', hr, h2, h3, fun k hk => ?_⟩
    rcases h5 with h5 | h5
    · exact .inl (by rw [← h5]; exact hk)
    · right
      rw [h5] at hk
      simpa using hk.symm
end Go.Proofs.Ytfepljcblajfpab.W

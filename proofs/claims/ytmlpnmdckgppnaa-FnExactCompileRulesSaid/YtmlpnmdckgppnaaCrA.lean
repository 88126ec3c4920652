/-
  What is kept beside rows that are written into (Off, St); asks in memory by the program: a contract of withAsk. Conditions: at most 100000 asks.
-/
import Derived.Test.YtmlpnmdckgppnaaCrM
import Derived.Test.YtmlpnmdckgppnaaPaF
import Derived.Test.YtmlpnmdckgppnaaApS
import Derived.Test.YtmlpnmdckgppnaaPaM
import Derived.Test.YtmlpnmdckgppnaaPaX
import Derived.Test.YtmlpnmdckgppnaaQvL
namespace Go.Proofs.Ytmlpnmdckgppnaa.W
open Go.ChangeShapes Go.WideShapes Go.ChangeAt Go.RowKit
set_option linter.unusedVariables false

/-- All that lies outside these blocks stays. -/
structure Off (O : Nat → Prop) (w w' : World) : Prop where
  os : w'.os = w.os
  tape : w'.tape = w.tape
  output : w'.output = w.output
  size : w.heap.size ≤ w'.heap.size
  block : ∀ k, k < w.heap.size → ¬ O k → w'.heap[k]? = w.heap[k]?
theorem Off.refl (O : Nat → Prop) (w : World) : Off O w w := ⟨rfl, rfl, rfl, Nat.le_refl _, fun _ _ _ => rfl⟩
/-- A later step may write into blocks that were made since, too. -/
theorem Off.trans {O O' : Nat → Prop} {a b c : World} (h : Off O a b) (k : Off O' b c) (ho : ∀ i, O' i → O i ∨ a.heap.size ≤ i) : Off O a c :=
  ⟨k.os.trans h.os, k.tape.trans h.tape, k.output.trans h.output, Nat.le_trans h.size k.size, fun i hi hn => (k.block i (Nat.lt_of_lt_of_le hi h.size) (fun hc => by
    rcases ho i hc with e | e
    · exact hn e
    · omega)).trans (h.block i hi hn)⟩
theorem Off.of_below {O : Nat → Prop} {w w' : World} (h : Below w.heap.size w w') : Off O w w' := ⟨h.os, h.tape, h.output, h.size, fun k hk _ => h.block k hk⟩
theorem Off.of_grown {O : Nat → Prop} {w w' : World} {row : Option Nat} (h : w.grownBy w' row) (ho : ∀ k, row = some k → O k) : Off O w w' :=
  ⟨h.os, h.tape, h.output, h.size, fun k hk hn => h.block k hk (fun e => hn (ho k e.symm))⟩
/-- What holds here and wherever all outside these blocks stays. -/
def St (O : Nat → Prop) (w : World) (P : World → Prop) : Prop := ∀ w', Off O w w' → P w'
theorem St.here {O : Nat → Prop} {w : World} {P : World → Prop} (h : St O w P) : P w := h w (Off.refl O w)
theorem St.later {O O' : Nat → Prop} {w w' : World} {P : World → Prop} (h : St O w P) (ho : Off O w w') (hO : ∀ i, O' i → O i ∨ w.heap.size ≤ i) : St O' w' P :=
  fun w2 h2 => h w2 (ho.trans h2 hO)

theorem infoAsk : (Try.prog.info? 92).map (fun i => (i.zero, i.size, i.bytes)) = some (some (.agg #[.slice none 0 0, .slice none 0 0]), 2, 48) := by kernel_rfl
theorem twoC_cells {w : World} {g : Nat} {v u : Value} {t : TypeId} (h : w.heap[g]? = some (.cells #[v, u] t (0, 0))) :
    ∀ j x, [v, u][j]? = some x → w.cell? ((⟨g, 0, none⟩ : Addr).add j) = some x := by
  intro j x hx
  rw [Addr.add_lit, Nat.zero_add, cell_of_blk h]
  match j with
  | 0 => simpa using hx
  | 1 => simpa using hx
  | j + 2 => simp at hx

set_option maxRecDepth 20000 in
set_option maxHeartbeats 4000000 in
theorem withAsk_any (base : Nat) (va : Value) (pa : Option Addr) (pn pc : Nat) (n : Nat) (xs : List Value) (b o N c : Nat) (x : Pt) (l : List Pt) (w : World)
    (hO : w.ownsRow base 92 2 va n xs) (hl : RAt 2 Pt.c w b o (x :: l)) (hN : N = l.length + 1) (hn : n ≤ 100000) (hbase : base ≤ w.heap.size) :
    Calls Try.prog 40 #[va, .slice pa pn pc, .slice (some ⟨b, o, none⟩) N c] w fun e w' =>
      (x.kd = 1 → e = .returned va ∧ w' = w) ∧
      (x.kd ≠ 1 → ∃ v', e = .returned v' ∧ w'.ownsRow base 92 2 v' (n + 1) (xs ++ [.slice pa pn pc, .slice (some ⟨b, o, none⟩) N c]) ∧ w.grownBy w' va.ownBlock ∧ Apart w va v') := by
  obtain ⟨i0, hi0, hz0, hz1, hz2⟩ := infoPartsT infoAsk
  have Hi := hide hi0
  obtain ⟨sad, sn, sc, hsf⟩ : ∃ sad sn sc, va = .slice sad sn sc := by
    obtain ⟨a, c, e⟩ := own_form hO
    exact ⟨_, _, _, e⟩
  subst hsf
  have p0 := hl.2 0 (by simp) 0 (by decide)
  have hNp : (0 : Int) < (N : Int) := by omega
  simp only [Nat.zero_mul, Nat.add_zero, List.getElem_cons_zero, Pt.c] at p0
  have hbl := hl.1
  have HO := hide hO
  clear hi0 hO hl hN
  by_cases hk : x.kd = 1
  · rw [hk] at p0
    go_enter Try.func40, Try.ntmps40
    go_wp2_with fail
    go_ret
    exact ⟨fun _ => ⟨rfl, rfl⟩, fun h => absurd hk h⟩
  · go_enter Try.func40, Try.ntmps40
    go_wp2_with (at_builtin; refine wpList_append_sep rfl _ _ 82 rfl base 92 i0 (.agg #[.slice none 0 0, .slice none 0 0]) 2 48 Try.underlying82 Hi.out hz0 hz1 hz2 rfl (by decide) _ _ _ rfl (HO.out.alloc _) ⟨w.heap.size, 0, none⟩ 1 1 [.slice pa pn pc, .slice (some ⟨b, o, none⟩) N c] rfl rfl ?c1 ?c2 ?c3 ?c4 ?c5 ?_)
    case c1 => exact twoC_cells (heap_alloc_new w _)
    case c2 => intro u hu; simp only [List.mem_cons, List.not_mem_nil, or_false] at hu; rcases hu with rfl | rfl <;> rfl
    case c3 => unfold maxLen; omega
    case c4 => omega
    case c5 => simp; omega
    intro v' w4 hown4 hgrow hap
    go_wp2_with fail
    go_ret
    refine ⟨fun h => absurd h hk, fun _ => ⟨_, rfl, hown4, ⟨hgrow.os, hgrow.tape, hgrow.output, Nat.le_trans (by simp) hgrow.size, fun k h1 h2 => ?_⟩, fun g hg => ?_⟩⟩
    · rw [hgrow.block k (by simp; omega) h2, heap_alloc_old _ _ h1]
    · rcases hap g hg with h | h
      · exact .inl h
      · simp at h; exact .inr (by omega)
theorem rrow_keep {α : Type} {z : Nat} {f : α → Nat → Value} {w w' : World} {ad : Option Addr} {l : List α} (h : RRow z f w ad l) (hs : w.heap.size ≤ w'.heap.size)
    (hk : ∀ a, ad = some a → a.block < w.heap.size → w'.heap[a.block]? = w.heap[a.block]?) : RRow z f w' ad l := by
  rcases h with h | ⟨b, o, h1, h2⟩
  · exact .inl h
  · have hb := hk _ h1 h2.1
    exact .inr ⟨b, o, h1, Nat.lt_of_lt_of_le h2.1 hs, fun i hi r hr => (World.cell?_of_block (a := ⟨b, o + i * z + r, none⟩) hb).trans (h2.2 i hi r hr)⟩
theorem St.pv {O : Nat → Prop} {w : World} {v : Value} {l : List Pt} (h : PV w v l) (ho : ∀ k, v.ownBlock = some k → ¬ O k) : St O w (PV · v l) := by
  intro w' hw
  obtain ⟨ad, c, rfl, h2, h3⟩ := h
  exact ⟨ad, c, rfl, rrow_keep h2 hw.size (fun a ha hlt => hw.block _ hlt (ho _ (by rw [ha]; rfl))), h3⟩
theorem St.iv {O : Nat → Prop} {w : World} {v : Value} {l : List Int} (h : IV w v l) (ho : ∀ k, v.ownBlock = some k → ¬ O k) : St O w (IV · v l) := by
  intro w' hw
  obtain ⟨ad, c, rfl, h2, h3⟩ := h
  exact ⟨ad, c, rfl, rrow_keep h2 hw.size (fun a ha hlt => hw.block _ hlt (ho _ (by rw [ha]; rfl))), h3⟩
/-- A slice's length is at most its capacity, and a nil one has none. -/
def CapOk (v : Value) : Prop := ∃ ad n c, v = .slice ad n c ∧ n ≤ c ∧ (ad = none → n = 0 ∧ c = 0)
/-- An ask in memory: its path and its cells. -/
def AkE (a : Ak) (pv cv : Value) (w : World) : Prop := IV w pv a.p ∧ PV w cv (a.x :: a.k.flat) ∧ CapOk pv
/-- Asks one behind the other, all that they hold outside of these blocks. -/
def AVs (O : Nat → Prop) (w : World) (xs : List Value) (q : List Ak) : Prop :=
  xs.length = q.length * 2 ∧ ∀ i (h : i < q.length), ∃ pv cv, xs[i * 2]? = some pv ∧ xs[i * 2 + 1]? = some cv ∧ St O w (AkE q[i] pv cv)
theorem AVs.mono {O O' : Nat → Prop} {w : World} {xs : List Value} {q : List Ak} (h : AVs O w xs q) (hO : ∀ i, O' i → O i) : AVs O' w xs q :=
  ⟨h.1, fun i hi => by
    obtain ⟨pv, cv, h1, h2, h3⟩ := h.2 i hi
    exact ⟨pv, cv, h1, h2, fun w' hw => h3 w' ⟨hw.os, hw.tape, hw.output, hw.size, fun k hk hn => hw.block k hk (fun hc => hn (hO k hc))⟩⟩⟩
theorem AVs.nil (O : Nat → Prop) (w : World) : AVs O w [] [] := ⟨rfl, fun i h => by simp at h⟩
theorem AVs.later {O O' : Nat → Prop} {w w' : World} {xs : List Value} {q : List Ak} (h : AVs O w xs q) (ho : Off O w w') (hO : ∀ i, O' i → O i ∨ w.heap.size ≤ i) : AVs O' w' xs q :=
  ⟨h.1, fun i hi => by
    obtain ⟨pv, cv, h1, h2, h3⟩ := h.2 i hi
    exact ⟨pv, cv, h1, h2, h3.later ho hO⟩⟩
theorem AVs.snoc {O : Nat → Prop} {w : World} {xs : List Value} {q : List Ak} {a : Ak} {pv cv : Value} (h : AVs O w xs q) (ha : St O w (AkE a pv cv)) : AVs O w (xs ++ [pv, cv]) (q ++ [a]) := by
  refine ⟨by simp [h.1]; omega, fun i hi => ?_⟩
  have hl := h.1
  by_cases hi1 : i < q.length
  · obtain ⟨p, c, h1, h2, h3⟩ := h.2 i hi1
    refine ⟨p, c, by rw [List.getElem?_append_left (by omega)]; exact h1, by rw [List.getElem?_append_left (by omega)]; exact h2, ?_⟩
    rw [List.getElem_append_left hi1]; exact h3
  · have hi2 : i = q.length := by simp at hi; omega
    subst hi2
    refine ⟨pv, cv, ?_, ?_, ?_⟩
    · rw [List.getElem?_append_right (by omega), hl, Nat.sub_self]; rfl
    · rw [List.getElem?_append_right (by omega), show q.length * 2 + 1 - xs.length = 1 by omega]; rfl
    · rw [List.getElem_append_right (Nat.le_refl _)]; simpa using ha
/-- A slice of asks that is read. -/
def AkV (w : World) (v : Value) (q : List Ak) : Prop :=
  ∃ ad c, v = .slice ad q.length c ∧ q.length ≤ c ∧ (q = [] ∨ ∃ b o, ad = some ⟨b, o, none⟩ ∧ b < w.heap.size ∧ ∀ i (h : i < q.length), ∃ pv cv, w.cell? ⟨b, o + i * 2, none⟩ = some pv ∧ w.cell? ⟨b, o + i * 2 + 1, none⟩ = some cv ∧ AkE q[i] pv cv w)
theorem AVs.read {O : Nat → Prop} {w : World} {base : Nat} {v : Value} {xs : List Value} {q : List Ak} (h : AVs O w xs q) (ho : w.ownsRow base 92 2 v q.length xs) : AkV w v q := by
  obtain ⟨hl, hv⟩ := h
  rcases ho.2 with ⟨h1, h2⟩ | ⟨g, cap, cur, h1, hg, hh, h2, h3, h4, h5⟩
  · subst h1
    have : q = [] := List.eq_nil_of_length_eq_zero (by omega)
    subst this
    exact ⟨none, 0, rfl, Nat.le_refl _, .inl rfl⟩
  · subst h1
    refine ⟨some ⟨g, 0, none⟩, cap, rfl, h2, .inr ⟨g, 0, rfl, (Array.getElem?_eq_some_iff.1 hh).1, fun i hi => ?_⟩⟩
    obtain ⟨pv, cv, e1, e2, e3⟩ := hv i hi
    have hlt : i * 2 + 1 < q.length * 2 := by omega
    refine ⟨pv, cv, ?_, ?_, e3.here⟩
    · rw [cell_of_blk hh, Nat.zero_add]
      rw [← h5, List.getElem?_take_of_lt (by omega)] at e1
      simpa using e1
    · rw [cell_of_blk hh, Nat.zero_add]
      rw [← h5, List.getElem?_take_of_lt hlt] at e2
      simpa using e2

end Go.Proofs.Ytmlpnmdckgppnaa.W

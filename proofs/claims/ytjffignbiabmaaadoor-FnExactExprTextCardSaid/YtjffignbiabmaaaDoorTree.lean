/-
  The specification's reader of expressions: contracts of l2Read, l2Tree and GoodExpr: a row of parts is read as a tree that lies in new memory. Conditions: at most 1048576 parts, texts of at most 1048576 bytes.
-/
import Derived.Test.YtjffignbiabmaaaDoorGoodI
import Derived.Laws.AppendOwn
import Derived.ScopeJumps
import Derived.Outline
namespace Go.Proofs.YtjffignbiabmaaaDoor.W
open Go.ChangeShapes Go.WideShapes Go.ChangeAt Go.RowKit

def E.head : E → Xx
  | .leaf x => x
  | .one x _ => x
  | .two x _ _ => x
def exC (x : Xx) (s : Value) : List Value := [.int .i64 x.k, .int .i64 x.n, .string x.t, s]
/-- A slice of n elements, in a block not below lo, whose cells are these. -/
def Lies (w : World) (lo : Nat) (s : Value) (n : Nat) (cs : List Value) : Prop :=
  ∃ g cap, s = .slice (some ⟨g, 0, none⟩) n cap ∧ lo ≤ g ∧ g < w.heap.size ∧ ∀ j v, cs[j]? = some v → w.cell? ⟨g, j, none⟩ = some v
theorem Lies.keep {w w' : World} {lo : Nat} {s : Value} {n : Nat} {cs : List Value} (h : Lies w lo s n cs) (hs : w.heap.size ≤ w'.heap.size) (hk : ∀ k, lo ≤ k → k < w.heap.size → w'.heap[k]? = w.heap[k]?) : Lies w' lo s n cs := by
  obtain ⟨g, cap, h1, h0, h2, h3⟩ := h
  exact ⟨g, cap, h1, h0, Nat.lt_of_lt_of_le h2 hs, fun j v hj => (World.cell?_of_block (w := w) (hk g h0 h2)).trans (h3 j v hj)⟩
theorem Lies.own {w : World} {base n : Nat} {e : TypeId} {s : Value} {cs : List Value} (h : w.ownsRow base e 4 s n cs) (hn : 0 < n) : Lies w base s n cs := by
  rcases h.2 with ⟨_, h0⟩ | ⟨g, cap, cur, hv, hg, hh, h1, h2, h3, h4⟩
  · omega
  · refine ⟨g, cap, hv, hg, (Array.getElem?_eq_some_iff.1 hh).1, fun j v hj => ?_⟩
    have hlt : j < n * 4 := by rw [← h.1]; exact (List.getElem?_eq_some_iff.1 hj).1
    rw [cell_of_blk hh, ← hj, ← h4, List.getElem?_take_of_lt hlt]
    simp
theorem Lies.lower {w : World} {lo lo' : Nat} {s : Value} {n : Nat} {cs : List Value} (h : Lies w lo s n cs) (hl : lo' ≤ lo) : Lies w lo' s n cs := by
  obtain ⟨g, cap, h1, h0, h2, h3⟩ := h
  exact ⟨g, cap, h1, Nat.le_trans hl h0, h2, h3⟩
/-- The parts of a tree lie in memory, in blocks not below lo. -/
def TrK (w : World) (lo : Nat) : E → Value → Prop
  | .leaf _, s => s = .slice none 0 0
  | .one _ a, s => ∃ sa, TrK w lo a sa ∧ Lies w lo s 1 (exC a.head sa)
  | .two _ a b, s => ∃ sa sb, TrK w lo a sa ∧ TrK w lo b sb ∧ Lies w lo s 2 (exC a.head sa ++ exC b.head sb)
theorem TrK.keep {w w' : World} {lo : Nat} (hs : w.heap.size ≤ w'.heap.size) (hk : ∀ k, lo ≤ k → k < w.heap.size → w'.heap[k]? = w.heap[k]?) : ∀ {e : E} {s : Value}, TrK w lo e s → TrK w' lo e s
  | .leaf _, _, h => h
  | .one _ _, _, ⟨sa, h1, h2⟩ => ⟨sa, TrK.keep hs hk h1, h2.keep hs hk⟩
  | .two _ _ _, _, ⟨sa, sb, h1, h2, h3⟩ => ⟨sa, sb, TrK.keep hs hk h1, TrK.keep hs hk h2, h3.keep hs hk⟩
theorem TrK.lower {w : World} {lo lo' : Nat} (hl : lo' ≤ lo) : ∀ {e : E} {s : Value}, TrK w lo e s → TrK w lo' e s
  | .leaf _, _, h => h
  | .one _ _, _, ⟨sa, h1, h2⟩ => ⟨sa, TrK.lower hl h1, h2.lower hl⟩
  | .two _ _ _, _, ⟨sa, sb, h1, h2, h3⟩ => ⟨sa, sb, TrK.lower hl h1, TrK.lower hl h2, h3.lower hl⟩
theorem TrK.below {w w' : World} {lo : Nat} (hb : Below w.heap.size w w') {e : E} {s : Value} (h : TrK w lo e s) : TrK w' lo e s := h.keep hb.size (fun k _ hk => hb.block k hk)

/-- What l2Read tells of what is read. -/
def RdOut (w' : World) (lo n : Nat) (e : Ending) : Option (E × List Xx) → Prop
  | none => e = .returned (.tuple #[.agg #[.int .i64 0, .int .i64 0, .string ⟨#[]⟩, .slice none 0 0], .int .i64 0])
  | some (t, r) => ∃ s, e = .returned (.tuple #[.agg #[.int .i64 t.head.k, .int .i64 t.head.n, .string t.head.t, s], .int .i64 ((n - r.length : Nat) : Int)]) ∧ TrK w' lo t s

theorem infoE : (Tryd.prog.info? 79).map (fun i => (i.zero, i.size, i.bytes)) = some (some (.agg #[.int .i64 0, .int .i64 0, .string ⟨#[]⟩, .slice none 0 0]), 4, 56) := by kernel_rfl

theorem infoParts {P : Program} {t : TypeId} {z : Option Value} {sz by_ : Nat} (h : (P.info? t).map (fun i => (i.zero, i.size, i.bytes)) = some (z, sz, by_)) : ∃ i, P.info? t = some i ∧ i.zero = z ∧ i.size = sz ∧ i.bytes = by_ := by
  obtain ⟨i, hi, e⟩ := Option.map_eq_some_iff.1 h
  simp only [Prod.mk.injEq] at e
  exact ⟨i, hi, e.1, e.2.1, e.2.2⟩
theorem heap3_0 (w : World) (A B C : Obj) : (((w.alloc A).alloc B).alloc C).heap[w.heap.size]? = some A := by
  rw [heap_alloc_old _ _ (by simp; omega), heap_alloc_old _ _ (by simp)]
  exact heap_alloc_new _ _
theorem heap3_2 (w : World) (A B C : Obj) : (((w.alloc A).alloc B).alloc C).heap[w.heap.size + 1 + 1]? = some C := by
  have := heap_alloc_new ((w.alloc A).alloc B) C
  simpa using this
theorem exC_one (x : Xx) (s : Value) (hs : s.oneCell' = true) : ∀ u ∈ exC x s, u.oneCell' = true := by
  intro u hu
  simp only [exC, List.mem_cons, List.not_mem_nil, or_false] at hu
  rcases hu with rfl | rfl | rfl | rfl
  · rfl
  · rfl
  · rfl
  · exact hs
theorem TrK.one {w : World} {lo : Nat} : ∀ {e : E} {s : Value}, TrK w lo e s → s.oneCell' = true
  | .leaf _, _, h => by rw [h]; rfl
  | .one _ _, _, ⟨_, _, ⟨_, _, h, _⟩⟩ => by rw [h]; rfl
  | .two _ _ _, _, ⟨_, _, _, _, ⟨_, _, h, _⟩⟩ => by rw [h]; rfl
theorem TrK.form {w : World} {lo : Nat} : ∀ {e : E} {s : Value}, TrK w lo e s → ∃ ad n c, s = .slice ad n c
  | .leaf _, _, h => ⟨_, _, _, h⟩
  | .one _ _, _, ⟨_, _, ⟨_, _, h, _⟩⟩ => ⟨_, _, _, h⟩
  | .two _ _ _, _, ⟨_, _, _, _, ⟨_, _, h, _⟩⟩ => ⟨_, _, _, h⟩
theorem own_keep {w w' : World} {base n size : Nat} {e : TypeId} {v : Value} {xs : List Value} (h : w.ownsRow base e size v n xs) (hk : ∀ k, base ≤ k → k < w.heap.size → w'.heap[k]? = w.heap[k]?) : w'.ownsRow base e size v n xs := by
  refine ⟨h.1, ?_⟩
  rcases h.2 with h0 | ⟨g, cap, cur, hv, hg, hh, rest⟩
  · exact .inl h0
  · exact .inr ⟨g, cap, cur, hv, hg, (hk g hg (Array.getElem?_eq_some_iff.1 hh).1).trans hh, rest⟩
theorem own_below {w w' : World} {base n size : Nat} {e : TypeId} {v : Value} {xs : List Value} (h : w.ownsRow base e size v n xs) (hb : Below w.heap.size w w') : w'.ownsRow base e size v n xs := own_keep h (fun k _ hk => hb.block k hk)
theorem own_some {w : World} {base n : Nat} {e : TypeId} {v : Value} {xs : List Value} (h : w.ownsRow base e 4 v n xs) (hn : 0 < n) : ∃ g cap, v = .slice (some ⟨g, 0, none⟩) n cap ∧ base ≤ g ∧ g < w.heap.size := by
  rcases h.2 with ⟨_, h0⟩ | ⟨g, cap, cur, hv, hg, hh, rest⟩
  · omega
  · exact ⟨g, cap, hv, hg, (Array.getElem?_eq_some_iff.1 hh).1⟩
theorem exC_cells {w : World} {g : Nat} {x : Xx} {s : Value} {t : TypeId} (h : w.heap[g]? = some (.cells #[.int .i64 x.k, .int .i64 x.n, .string x.t, s] t (0, 0))) :
    ∀ j u, (exC x s)[j]? = some u → w.cell? ((⟨g, 0, none⟩ : Addr).add j) = some u := by
  intro j u hu
  have hadd : (⟨g, 0, none⟩ : Addr).add j = ⟨g, j, none⟩ := by unfold Addr.add; split <;> simp_all
  rw [hadd, cell_of_blk h, ← hu]
  simp [exC]

theorem rd_bad {f : Nat} {x : Xx} {r : List Xx} (h : goodX x = false) : rd (f + 1) (x :: r) = none := by unfold rd; rw [if_neg (by rw [h]; simp)]
theorem rd_leaf {f : Nat} {x : Xx} {r : List Xx} (h : goodX x = true) (hb : behind x = 0) : rd (f + 1) (x :: r) = some (.leaf x, r) := by unfold rd; rw [if_pos h, if_pos hb]
theorem rd_none1 {f : Nat} {x : Xx} {r : List Xx} (h : goodX x = true) (hb : behind x ≠ 0) (h1 : rd f r = none) : rd (f + 1) (x :: r) = none := by unfold rd; rw [if_pos h, if_neg hb, h1]
theorem rd_one {f : Nat} {x : Xx} {r r1 : List Xx} {a : E} (h : goodX x = true) (hb : behind x = 1) (h1 : rd f r = some (a, r1)) : rd (f + 1) (x :: r) = some (.one x a, r1) := by
  unfold rd; rw [if_pos h, if_neg (by omega), h1]; simp only [if_pos hb]
theorem rd_none2 {f : Nat} {x : Xx} {r r1 : List Xx} {a : E} (h : goodX x = true) (hb : behind x = 2) (h1 : rd f r = some (a, r1)) (h2 : rd f r1 = none) : rd (f + 1) (x :: r) = none := by
  unfold rd; rw [if_pos h, if_neg (by omega), h1]; simp only [hb, h2]; rfl
theorem rd_two {f : Nat} {x : Xx} {r r1 r2 : List Xx} {a b : E} (h : goodX x = true) (hb : behind x = 2) (h1 : rd f r = some (a, r1)) (h2 : rd f r1 = some (b, r2)) : rd (f + 1) (x :: r) = some (.two x a b, r2) := by
  unfold rd; rw [if_pos h, if_neg (by omega), h1]; simp only [hb, h2]; rfl
/-- What is left is the row's end. -/
theorem rd_rest {f : Nat} {l : List Xx} {p : Nat} {a : E} {r : List Xx} (h : rd f (l.drop p) = some (a, r)) : r = l.drop (l.length - r.length) ∧ r.length < l.length - p := by
  obtain ⟨e, -⟩ := rd_flat f _ _ _ h
  have hp := a.flat_pos
  have hl : (l.drop p).length = a.flat.length + r.length := by rw [e]; simp
  rw [List.length_drop] at hl
  refine ⟨?_, by omega⟩
  have : l.drop (p + a.flat.length) = r := by rw [← List.drop_drop, e]; simp
  rw [← this]
  congr 1
  rw [List.length_drop]; omega

def RdGoal (f : Nat) (ad : Option Addr) (c : Nat) (l : List Xx) (at_ : Nat) (w : World) : Prop :=
    Calls Tryd.prog 89 #[.slice ad l.length c, .int .i64 at_] w fun e w' => Below w.heap.size w w' ∧ RdOut w' w.heap.size l.length e (rd f (l.drop at_))
def RdIH (f : Nat) (ad : Option Addr) (c : Nat) (l : List Xx) : Prop := ∀ (at' : Nat) (w' : World), Row w' ad l → at' ≤ l.length → l.length - at' ≤ f → RdGoal f ad c l at' w'


set_option maxRecDepth 20000 in
set_option maxHeartbeats 4000000 in
theorem l2Read_k3 (f : Nat) (ad : Option Addr) (c : Nat) (l : List Xx) (at_ : Nat) (w : World) (n : Int) (t : ByteArray) (ih : RdIH f ad c l) (hl : l.length ≤ 1048576) (hR : Row w ad l) (hlt : at_ < l.length) (hf : l.length - at_ ≤ f + 1) (hx : l[at_] = ⟨3, n, t⟩) :
    RdGoal (f + 1) ad c l at_ w := by
  unfold RdGoal
  have hlt' : (at_ : Int) < (l.length : Int) := by omega
  have hnle : ¬ l.length ≤ at_ := by omega
  obtain ⟨b, o, rfl, hb, p0, p1, p2⟩ := hR.tok (Below.refl _ _) hlt
  rw [hx] at p0 p1 p2
  simp only at p0 p1 p2
  have hd : l.drop at_ = ⟨3, n, t⟩ :: l.drop (at_ + 1) := by rw [← hx]; exact List.drop_eq_getElem_cons hlt
  rw [hd]
  have HR := hide hR
  have IH := hide ih
  clear hx hd hR ih
  obtain ⟨i0, hi, hz0, hz1, hz2⟩ := infoParts infoE
  have Hi := hide hi
  clear hi
  by_cases hg : n = 0 ∧ t.toList.isEmpty = true
  · have hgx : goodX ⟨3, n, t⟩ = true := by simp [goodX, hg]
    have hbx : behind ⟨3, n, t⟩ = 1 := rfl
    have HG := hide hgx
    have HBx := hide hbx
    clear hgx hbx
    obtain ⟨rfl, ht⟩ := hg
    obtain ⟨Rt, hRt⟩ : ∃ Rt, Rt = rd (f + 1) ((⟨3, 0, t⟩ : Xx) :: l.drop (at_ + 1)) := ⟨_, rfl⟩
    rw [← hRt]
    have HRt := hide hRt
    clear hRt
    go_enter Tryd.func89, Tryd.ntmps89
    go_wp2_with fail
    go_loopw [1, 8] (fun a8 m8 w' => ∃ sk : Value, Below w.heap.size w w' ∧ w'.heap[w.heap.size]? = some (.cells #[.int .i64 0, .int .i64 0, .string ⟨#[]⟩, .slice none 0 0] 79 (0, 0)) ∧ w'.heap[w.heap.size + 1 + 1]? = some (.cells #[.int .i64 3, .int .i64 0, .string t, sk] 79 (0, 0)) ∧
      ((a8 = .int .i64 ((at_ : Int) + 1) ∧ m8 = .int .i64 1 ∧ sk = .slice none 0 0) ∨
       (∃ (a : E) (r : List Xx), r.length ≤ l.length ∧ a8 = .int .i64 ((l.length - r.length : Nat) : Int) ∧ m8 = .int .i64 0 ∧ Rt = some (.one ⟨3, 0, t⟩ a, r) ∧ TrK w' (w.heap.size + 1) (.one ⟨3, 0, t⟩ a) sk))) (fun _ m8 _ => (intOf m8).toNat)
    case atStart =>
      refine ⟨.slice none 0 0, (((Below.refl _ _).alloc (Nat.le_refl _) _).alloc (by simp) _).alloc (by simp; omega) _, ?_, ?_, .inl ⟨rfl, rfl, rfl⟩⟩
      · exact heap3_0 _ _ _ _
      · exact heap3_2 _ _ _ _
    case round =>
      obtain ⟨sk, hB, h0, h2, hph⟩ := hrel
      have H0 := hide h0
      have H2 := hide h2
      clear h0 h2
      rcases hph with ⟨rfl, rfl, rfl⟩ | ⟨a, r, hrl, rfl, rfl, hRt, hT⟩
      · go_wp2_with fail
        refine Calls.mono (IH.out (at_ + 1) _ (HR.out.below hB) (by omega) (by omega)) ?_
        rintro e w1 ⟨hb1, ho1⟩
        have hsz1 := hb1.size
        have hszr := hB.size
        have hsz3 : w.heap.size + 1 + 1 < wr.heap.size := (Array.getElem?_eq_some_iff.1 H2.out).1
        have hB1 : Below w.heap.size w w1 := hB.trans (hb1.mono hszr)
        have h01 : w1.heap[w.heap.size]? = _ := (hb1.block _ (by omega)).trans H0.out
        have h21 : w1.heap[w.heap.size + 1 + 1]? = _ := (hb1.block _ hsz3).trans H2.out
        have H01 := hide h01
        have H21 := hide h21
        clear h01 h21
        cases hrd : rd f (l.drop (at_ + 1)) with
        | none =>
          rw [hrd] at ho1
          have e1 : Rt = none := by rw [HRt.out]; exact rd_none1 HG.out (by rw [HBx.out]; omega) hrd
          subst e1
          have ho1' : e = .returned (.tuple #[.agg #[.int .i64 0, .int .i64 0, .string ⟨#[]⟩, .slice none 0 0], .int .i64 0]) := ho1
          subst ho1'
          clear ho1
          have z0 := cell_of_blk H01.out 0
          have z1 := cell_of_blk H01.out 1
          have z2 := cell_of_blk H01.out 2
          have z3 := cell_of_blk H01.out 3
          have fz := unfrozen_of_blk H01.out
          simp only [List.getElem?_toArray, List.getElem?_cons_zero, List.getElem?_cons_succ] at z0 z1 z2 z3
          have hlt1 : w.heap.size < w1.heap.size := (Array.getElem?_eq_some_iff.1 H01.out).1
          go_wp2_with fail
          exact bodyPost_ret (v := .tuple #[.agg #[.int .i64 0, .int .i64 0, .string ⟨#[]⟩, .slice none 0 0], .int .i64 0]) (by simp [results, Tryd.results89, go_sem, *]) rfl ⟨((((hB1.setCell (p := ⟨w.heap.size, 0, none⟩) (Nat.le_refl _) _).setCell (p := ⟨w.heap.size, 1, none⟩) (Nat.le_refl _) _).setCell (p := ⟨w.heap.size, 2, none⟩) (Nat.le_refl _) _).setCell (p := ⟨w.heap.size, 3, none⟩) (Nat.le_refl _) _).alloc (by simp; omega) _, rfl⟩
        | some q =>
          obtain ⟨a, r⟩ := q
          rw [hrd] at ho1
          have e1 : Rt = some (.one ⟨3, 0, t⟩ a, r) := by rw [HRt.out]; exact rd_one HG.out HBx.out hrd
          obtain ⟨-, hr2⟩ := rd_rest hrd
          clear hrd
          obtain ⟨sa, rfl, hT⟩ := ho1
          obtain ⟨sad, sn, sc, rfl⟩ := hT.form
          obtain ⟨xa, hxa⟩ : ∃ xa, xa = a.head := ⟨_, rfl⟩
          rw [← hxa]
          have HXa := hide hxa
          clear hxa
          have HRt2 := hide e1
          have HT := hide hT
          clear e1 hT
          have y0 := cell_of_blk H21.out 0
          have y1 := cell_of_blk H21.out 1
          have y2 := cell_of_blk H21.out 2
          have y3 := cell_of_blk H21.out 3
          have fy := unfrozen_of_blk H21.out
          simp only [List.getElem?_toArray, List.getElem?_cons_zero, List.getElem?_cons_succ] at y0 y1 y2 y3
          have hne : ¬ ((l.length - r.length : Nat) : Int) = 0 := by omega
          obtain ⟨E1, hE1⟩ : ∃ E1, E1 = l.length - r.length := ⟨_, rfl⟩
          rw [← hE1] at hne ⊢
          have HE1 := hide hE1
          clear hE1
          have hlt1 : w.heap.size + 1 + 1 < w1.heap.size := (Array.getElem?_eq_some_iff.1 H21.out).1
          go_wp2_with (at_builtin; refine wpList_append_own _ rfl _ _ 77 rfl w1.heap.size 79 i0 (.agg #[.int .i64 0, .int .i64 0, .string ⟨#[]⟩, .slice none 0 0]) 4 56 Tryd.underlying77 Hi.out hz0 hz1 hz2 rfl (by decide) _ _ _ rfl (World.ownsRow_nil _ _ _ _) ⟨w1.heap.size + 1, 0, none⟩ 1 1 (exC xa (.slice sad sn sc)) rfl rfl ?c1 ?c2 ?c3 ?c4 ?c5 ?_)
          case c1 => exact exC_cells (by have := heap_alloc_new (w1.alloc (.cells #[.int .i64 xa.k, .int .i64 xa.n, .string xa.t, .slice sad sn sc] 79)) (.cells #[.int .i64 xa.k, .int .i64 xa.n, .string xa.t, .slice sad sn sc] 79); simpa using this)
          case c2 => exact exC_one _ _ rfl
          case c3 => unfold maxLen; omega
          case c4 => omega
          case c5 => simp; omega
          intro v' w2 hown2 hgrow _
          have hb2 : Below w1.heap.size w1 w2 := (((Below.refl _ _).alloc (Nat.le_refl _) _).alloc (by simp) _).grown hgrow (by simp; omega) (fun k hk => by cases hk)
          have hsz2 := hb2.size
          have hL := Lies.own hown2 (by omega)
          have H22 := hide ((hb2.block _ hlt1).trans H21.out)
          have H02 := hide ((hb2.block w.heap.size (by omega)).trans H01.out)
          have hT2 := HT.out.below hb2
          obtain ⟨g, cap, rfl, hg0, hg1, hgc⟩ := hL
          have HL := hide hgc
          have HT2 := hide hT2
          clear hown2 hgrow hgc hT2 y0 y1 y2 y3 fy
          have y3 := cell_of_blk H22.out 3
          have fy := unfrozen_of_blk H22.out 3
          simp only [List.getElem?_toArray, List.getElem?_cons_zero, List.getElem?_cons_succ] at y3
          go_wp2_with fail
          have hbf : ∀ k, k ≠ w.heap.size + 1 + 1 → (w2.setCell ⟨w.heap.size + 1 + 1, 3, none⟩ (.slice (some ⟨g, 0, none⟩) 1 cap)).heap[k]? = w2.heap[k]? := fun k hk => Below.heap_setCell _ _ _ _ hk
          have hss : (w2.setCell ⟨w.heap.size + 1 + 1, 3, none⟩ (.slice (some ⟨g, 0, none⟩) 1 cap)).heap.size = w2.heap.size := by simp [World.setCell]
          refine ⟨⟨.slice (some ⟨g, 0, none⟩) 1 cap, (hB1.trans (hb2.mono hB1.size)).setCell (by simp; omega) _, ?_, ?_, .inr ⟨a, r, by omega, by rw [HE1.out], rfl, HRt2.out, .slice sad sn sc, ?_, ?_⟩⟩, by simp [intOf]⟩
          · rw [hbf _ (by omega)]; exact H02.out
          · rw [blk_setCell H22.out]; rfl
          · exact TrK.lower (lo := wr.heap.size) (by omega) (TrK.keep (by rw [hss]; exact Nat.le_refl _) (fun k hk1 hk2 => hbf k (by omega)) HT2.out)
          · rw [← HXa.out]
            exact Lies.lower (lo := w1.heap.size) (Lies.keep (w := w2) ⟨g, cap, rfl, hg0, hg1, HL.out⟩ (by rw [hss]; exact Nat.le_refl _) (fun k hk1 hk2 => hbf k (by omega))) (by omega)
      · have z0 := cell_of_blk H0.out 0
        have z1 := cell_of_blk H0.out 1
        have z2 := cell_of_blk H0.out 2
        have z3 := cell_of_blk H0.out 3
        have fz := unfrozen_of_blk H0.out
        have y0 := cell_of_blk H2.out 0
        have y1 := cell_of_blk H2.out 1
        have y2 := cell_of_blk H2.out 2
        have y3 := cell_of_blk H2.out 3
        simp only [List.getElem?_toArray, List.getElem?_cons_zero, List.getElem?_cons_succ] at z0 z1 z2 z3 y0 y1 y2 y3
        subst hRt
        obtain ⟨sa, hTa, g, cap, rfl, hg0, hg1, hgc⟩ := hT
        have HTa := hide hTa
        have HGc := hide hgc
        clear hTa hgc
        go_wp2_with fail
        refine bodyPost_ret (v := .tuple #[.agg #[.int .i64 3, .int .i64 0, .string t, .slice (some ⟨g, 0, none⟩) 1 cap], .int .i64 ((l.length - r.length : Nat) : Int)]) (by simp [results, Tryd.results89, go_sem, *]) rfl ⟨(((hB.setCell (p := ⟨w.heap.size, 0, none⟩) (Nat.le_refl _) _).setCell (p := ⟨w.heap.size, 1, none⟩) (Nat.le_refl _) _).setCell (p := ⟨w.heap.size, 2, none⟩) (Nat.le_refl _) _).setCell (p := ⟨w.heap.size, 3, none⟩) (Nat.le_refl _) _, _, rfl, ?_⟩
        refine TrK.lower (lo := w.heap.size + 1) (by omega) (TrK.keep (w := wr) (by simp [World.setCell]) (fun k hk1 hk2 => ?_) (show TrK wr (w.heap.size + 1) (.one ⟨3, 0, t⟩ a) _ from ⟨sa, HTa.out, g, cap, rfl, hg0, hg1, HGc.out⟩))
        have hkn : k ≠ w.heap.size := by omega
        rw [Below.heap_setCell _ _ _ _ hkn, Below.heap_setCell _ _ _ _ hkn, Below.heap_setCell _ _ _ _ hkn, Below.heap_setCell _ _ _ _ hkn]
  · have hgx : goodX ⟨3, n, t⟩ = false := by
      rw [Bool.eq_false_iff]; intro hc
      simp [goodX] at hc
      exact hg ⟨hc.1, by simpa using hc.2⟩
    rw [rd_bad hgx]
    clear hgx
    by_cases hn : n = 0
    · subst hn
      have ht : t.toList.isEmpty = false := by
        rw [Bool.eq_false_iff]; intro hc; exact hg ⟨rfl, hc⟩
      clear hg
      go_enter Tryd.func89, Tryd.ntmps89
      go_wp2_with fail
      exact bodyPost_ret (v := .tuple #[.agg #[.int .i64 0, .int .i64 0, .string ⟨#[]⟩, .slice none 0 0], .int .i64 0]) (by simp [results, Tryd.results89, go_sem]) rfl ⟨(((Below.refl _ _).alloc (Nat.le_refl _) _).alloc (by simp) _).alloc (by simp; omega) _, rfl⟩
    · clear hg
      go_enter Tryd.func89, Tryd.ntmps89
      go_wp2_with fail
      exact bodyPost_ret (v := .tuple #[.agg #[.int .i64 0, .int .i64 0, .string ⟨#[]⟩, .slice none 0 0], .int .i64 0]) (by simp [results, Tryd.results89, go_sem]) rfl ⟨(((Below.refl _ _).alloc (Nat.le_refl _) _).alloc (by simp) _).alloc (by simp; omega) _, rfl⟩

set_option maxRecDepth 20000 in
set_option maxHeartbeats 4000000 in
theorem l2Read_k4 (f : Nat) (ad : Option Addr) (c : Nat) (l : List Xx) (at_ : Nat) (w : World) (n : Int) (t : ByteArray) (ih : RdIH f ad c l) (hl : l.length ≤ 1048576) (hR : Row w ad l) (hlt : at_ < l.length) (hf : l.length - at_ ≤ f + 1) (hx : l[at_] = ⟨4, n, t⟩) :
    RdGoal (f + 1) ad c l at_ w := by
  unfold RdGoal
  have hlt' : (at_ : Int) < (l.length : Int) := by omega
  have hnle : ¬ l.length ≤ at_ := by omega
  obtain ⟨b, o, rfl, hb, p0, p1, p2⟩ := hR.tok (Below.refl _ _) hlt
  rw [hx] at p0 p1 p2
  simp only at p0 p1 p2
  have hd : l.drop at_ = ⟨4, n, t⟩ :: l.drop (at_ + 1) := by rw [← hx]; exact List.drop_eq_getElem_cons hlt
  rw [hd]
  have HR := hide hR
  have IH := hide ih
  clear hx hd hR ih
  obtain ⟨i0, hi, hz0, hz1, hz2⟩ := infoParts infoE
  have Hi := hide hi
  clear hi
  by_cases hg : n = 0 ∧ t.toList.isEmpty = true
  · have hgx : goodX ⟨4, n, t⟩ = true := by simp [goodX, hg]
    have hbx : behind ⟨4, n, t⟩ = 1 := rfl
    have HG := hide hgx
    have HBx := hide hbx
    clear hgx hbx
    obtain ⟨rfl, ht⟩ := hg
    obtain ⟨Rt, hRt⟩ : ∃ Rt, Rt = rd (f + 1) ((⟨4, 0, t⟩ : Xx) :: l.drop (at_ + 1)) := ⟨_, rfl⟩
    rw [← hRt]
    have HRt := hide hRt
    clear hRt
    go_enter Tryd.func89, Tryd.ntmps89
    go_wp2_with fail
    go_loopw [1, 8] (fun a8 m8 w' => ∃ sk : Value, Below w.heap.size w w' ∧ w'.heap[w.heap.size]? = some (.cells #[.int .i64 0, .int .i64 0, .string ⟨#[]⟩, .slice none 0 0] 79 (0, 0)) ∧ w'.heap[w.heap.size + 1 + 1]? = some (.cells #[.int .i64 4, .int .i64 0, .string t, sk] 79 (0, 0)) ∧
      ((a8 = .int .i64 ((at_ : Int) + 1) ∧ m8 = .int .i64 1 ∧ sk = .slice none 0 0) ∨
       (∃ (a : E) (r : List Xx), r.length ≤ l.length ∧ a8 = .int .i64 ((l.length - r.length : Nat) : Int) ∧ m8 = .int .i64 0 ∧ Rt = some (.one ⟨4, 0, t⟩ a, r) ∧ TrK w' (w.heap.size + 1) (.one ⟨4, 0, t⟩ a) sk))) (fun _ m8 _ => (intOf m8).toNat)
    case atStart =>
      refine ⟨.slice none 0 0, (((Below.refl _ _).alloc (Nat.le_refl _) _).alloc (by simp) _).alloc (by simp; omega) _, ?_, ?_, .inl ⟨rfl, rfl, rfl⟩⟩
      · exact heap3_0 _ _ _ _
      · exact heap3_2 _ _ _ _
    case round =>
      obtain ⟨sk, hB, h0, h2, hph⟩ := hrel
      have H0 := hide h0
      have H2 := hide h2
      clear h0 h2
      rcases hph with ⟨rfl, rfl, rfl⟩ | ⟨a, r, hrl, rfl, rfl, hRt, hT⟩
      · go_wp2_with fail
        refine Calls.mono (IH.out (at_ + 1) _ (HR.out.below hB) (by omega) (by omega)) ?_
        rintro e w1 ⟨hb1, ho1⟩
        have hsz1 := hb1.size
        have hszr := hB.size
        have hsz3 : w.heap.size + 1 + 1 < wr.heap.size := (Array.getElem?_eq_some_iff.1 H2.out).1
        have hB1 : Below w.heap.size w w1 := hB.trans (hb1.mono hszr)
        have h01 : w1.heap[w.heap.size]? = _ := (hb1.block _ (by omega)).trans H0.out
        have h21 : w1.heap[w.heap.size + 1 + 1]? = _ := (hb1.block _ hsz3).trans H2.out
        have H01 := hide h01
        have H21 := hide h21
        clear h01 h21
        cases hrd : rd f (l.drop (at_ + 1)) with
        | none =>
          rw [hrd] at ho1
          have e1 : Rt = none := by rw [HRt.out]; exact rd_none1 HG.out (by rw [HBx.out]; omega) hrd
          subst e1
          have ho1' : e = .returned (.tuple #[.agg #[.int .i64 0, .int .i64 0, .string ⟨#[]⟩, .slice none 0 0], .int .i64 0]) := ho1
          subst ho1'
          clear ho1
          have z0 := cell_of_blk H01.out 0
          have z1 := cell_of_blk H01.out 1
          have z2 := cell_of_blk H01.out 2
          have z3 := cell_of_blk H01.out 3
          have fz := unfrozen_of_blk H01.out
          simp only [List.getElem?_toArray, List.getElem?_cons_zero, List.getElem?_cons_succ] at z0 z1 z2 z3
          have hlt1 : w.heap.size < w1.heap.size := (Array.getElem?_eq_some_iff.1 H01.out).1
          go_wp2_with fail
          exact bodyPost_ret (v := .tuple #[.agg #[.int .i64 0, .int .i64 0, .string ⟨#[]⟩, .slice none 0 0], .int .i64 0]) (by simp [results, Tryd.results89, go_sem, *]) rfl ⟨((((hB1.setCell (p := ⟨w.heap.size, 0, none⟩) (Nat.le_refl _) _).setCell (p := ⟨w.heap.size, 1, none⟩) (Nat.le_refl _) _).setCell (p := ⟨w.heap.size, 2, none⟩) (Nat.le_refl _) _).setCell (p := ⟨w.heap.size, 3, none⟩) (Nat.le_refl _) _).alloc (by simp; omega) _, rfl⟩
        | some q =>
          obtain ⟨a, r⟩ := q
          rw [hrd] at ho1
          have e1 : Rt = some (.one ⟨4, 0, t⟩ a, r) := by rw [HRt.out]; exact rd_one HG.out HBx.out hrd
          obtain ⟨-, hr2⟩ := rd_rest hrd
          clear hrd
          obtain ⟨sa, rfl, hT⟩ := ho1
          obtain ⟨sad, sn, sc, rfl⟩ := hT.form
          obtain ⟨xa, hxa⟩ : ∃ xa, xa = a.head := ⟨_, rfl⟩
          rw [← hxa]
          have HXa := hide hxa
          clear hxa
          have HRt2 := hide e1
          have HT := hide hT
          clear e1 hT
          have y0 := cell_of_blk H21.out 0
          have y1 := cell_of_blk H21.out 1
          have y2 := cell_of_blk H21.out 2
          have y3 := cell_of_blk H21.out 3
          have fy := unfrozen_of_blk H21.out
          simp only [List.getElem?_toArray, List.getElem?_cons_zero, List.getElem?_cons_succ] at y0 y1 y2 y3
          have hne : ¬ ((l.length - r.length : Nat) : Int) = 0 := by omega
          obtain ⟨E1, hE1⟩ : ∃ E1, E1 = l.length - r.length := ⟨_, rfl⟩
          rw [← hE1] at hne ⊢
          have HE1 := hide hE1
          clear hE1
          have hlt1 : w.heap.size + 1 + 1 < w1.heap.size := (Array.getElem?_eq_some_iff.1 H21.out).1
          go_wp2_with (at_builtin; refine wpList_append_own _ rfl _ _ 77 rfl w1.heap.size 79 i0 (.agg #[.int .i64 0, .int .i64 0, .string ⟨#[]⟩, .slice none 0 0]) 4 56 Tryd.underlying77 Hi.out hz0 hz1 hz2 rfl (by decide) _ _ _ rfl (World.ownsRow_nil _ _ _ _) ⟨w1.heap.size + 1, 0, none⟩ 1 1 (exC xa (.slice sad sn sc)) rfl rfl ?c1 ?c2 ?c3 ?c4 ?c5 ?_)
          case c1 => exact exC_cells (by have := heap_alloc_new (w1.alloc (.cells #[.int .i64 xa.k, .int .i64 xa.n, .string xa.t, .slice sad sn sc] 79)) (.cells #[.int .i64 xa.k, .int .i64 xa.n, .string xa.t, .slice sad sn sc] 79); simpa using this)
          case c2 => exact exC_one _ _ rfl
          case c3 => unfold maxLen; omega
          case c4 => omega
          case c5 => simp; omega
          intro v' w2 hown2 hgrow _
          have hb2 : Below w1.heap.size w1 w2 := (((Below.refl _ _).alloc (Nat.le_refl _) _).alloc (by simp) _).grown hgrow (by simp; omega) (fun k hk => by cases hk)
          have hsz2 := hb2.size
          have hL := Lies.own hown2 (by omega)
          have H22 := hide ((hb2.block _ hlt1).trans H21.out)
          have H02 := hide ((hb2.block w.heap.size (by omega)).trans H01.out)
          have hT2 := HT.out.below hb2
          obtain ⟨g, cap, rfl, hg0, hg1, hgc⟩ := hL
          have HL := hide hgc
          have HT2 := hide hT2
          clear hown2 hgrow hgc hT2 y0 y1 y2 y3 fy
          have y3 := cell_of_blk H22.out 3
          have fy := unfrozen_of_blk H22.out 3
          simp only [List.getElem?_toArray, List.getElem?_cons_zero, List.getElem?_cons_succ] at y3
          go_wp2_with fail
          have hbf : ∀ k, k ≠ w.heap.size + 1 + 1 → (w2.setCell ⟨w.heap.size + 1 + 1, 3, none⟩ (.slice (some ⟨g, 0, none⟩) 1 cap)).heap[k]? = w2.heap[k]? := fun k hk => Below.heap_setCell _ _ _ _ hk
          have hss : (w2.setCell ⟨w.heap.size + 1 + 1, 3, none⟩ (.slice (some ⟨g, 0, none⟩) 1 cap)).heap.size = w2.heap.size := by simp [World.setCell]
          refine ⟨⟨.slice (some ⟨g, 0, none⟩) 1 cap, (hB1.trans (hb2.mono hB1.size)).setCell (by simp; omega) _, ?_, ?_, .inr ⟨a, r, by omega, by rw [HE1.out], rfl, HRt2.out, .slice sad sn sc, ?_, ?_⟩⟩, by simp [intOf]⟩
          · rw [hbf _ (by omega)]; exact H02.out
          · rw [blk_setCell H22.out]; rfl
          · exact TrK.lower (lo := wr.heap.size) (by omega) (TrK.keep (by rw [hss]; exact Nat.le_refl _) (fun k hk1 hk2 => hbf k (by omega)) HT2.out)
          · rw [← HXa.out]
            exact Lies.lower (lo := w1.heap.size) (Lies.keep (w := w2) ⟨g, cap, rfl, hg0, hg1, HL.out⟩ (by rw [hss]; exact Nat.le_refl _) (fun k hk1 hk2 => hbf k (by omega))) (by omega)
      · have z0 := cell_of_blk H0.out 0
        have z1 := cell_of_blk H0.out 1
        have z2 := cell_of_blk H0.out 2
        have z3 := cell_of_blk H0.out 3
        have fz := unfrozen_of_blk H0.out
        have y0 := cell_of_blk H2.out 0
        have y1 := cell_of_blk H2.out 1
        have y2 := cell_of_blk H2.out 2
        have y3 := cell_of_blk H2.out 3
        simp only [List.getElem?_toArray, List.getElem?_cons_zero, List.getElem?_cons_succ] at z0 z1 z2 z3 y0 y1 y2 y3
        subst hRt
        obtain ⟨sa, hTa, g, cap, rfl, hg0, hg1, hgc⟩ := hT
        have HTa := hide hTa
        have HGc := hide hgc
        clear hTa hgc
        go_wp2_with fail
        refine bodyPost_ret (v := .tuple #[.agg #[.int .i64 4, .int .i64 0, .string t, .slice (some ⟨g, 0, none⟩) 1 cap], .int .i64 ((l.length - r.length : Nat) : Int)]) (by simp [results, Tryd.results89, go_sem, *]) rfl ⟨(((hB.setCell (p := ⟨w.heap.size, 0, none⟩) (Nat.le_refl _) _).setCell (p := ⟨w.heap.size, 1, none⟩) (Nat.le_refl _) _).setCell (p := ⟨w.heap.size, 2, none⟩) (Nat.le_refl _) _).setCell (p := ⟨w.heap.size, 3, none⟩) (Nat.le_refl _) _, _, rfl, ?_⟩
        refine TrK.lower (lo := w.heap.size + 1) (by omega) (TrK.keep (w := wr) (by simp [World.setCell]) (fun k hk1 hk2 => ?_) (show TrK wr (w.heap.size + 1) (.one ⟨4, 0, t⟩ a) _ from ⟨sa, HTa.out, g, cap, rfl, hg0, hg1, HGc.out⟩))
        have hkn : k ≠ w.heap.size := by omega
        rw [Below.heap_setCell _ _ _ _ hkn, Below.heap_setCell _ _ _ _ hkn, Below.heap_setCell _ _ _ _ hkn, Below.heap_setCell _ _ _ _ hkn]
  · have hgx : goodX ⟨4, n, t⟩ = false := by
      rw [Bool.eq_false_iff]; intro hc
      simp [goodX] at hc
      exact hg ⟨hc.1, by simpa using hc.2⟩
    rw [rd_bad hgx]
    clear hgx
    by_cases hn : n = 0
    · subst hn
      have ht : t.toList.isEmpty = false := by
        rw [Bool.eq_false_iff]; intro hc; exact hg ⟨rfl, hc⟩
      clear hg
      go_enter Tryd.func89, Tryd.ntmps89
      go_wp2_with fail
      exact bodyPost_ret (v := .tuple #[.agg #[.int .i64 0, .int .i64 0, .string ⟨#[]⟩, .slice none 0 0], .int .i64 0]) (by simp [results, Tryd.results89, go_sem]) rfl ⟨(((Below.refl _ _).alloc (Nat.le_refl _) _).alloc (by simp) _).alloc (by simp; omega) _, rfl⟩
    · clear hg
      go_enter Tryd.func89, Tryd.ntmps89
      go_wp2_with fail
      exact bodyPost_ret (v := .tuple #[.agg #[.int .i64 0, .int .i64 0, .string ⟨#[]⟩, .slice none 0 0], .int .i64 0]) (by simp [results, Tryd.results89, go_sem]) rfl ⟨(((Below.refl _ _).alloc (Nat.le_refl _) _).alloc (by simp) _).alloc (by simp; omega) _, rfl⟩


set_option maxRecDepth 20000 in
set_option maxHeartbeats 4000000 in
theorem l2Read_k5 (f : Nat) (ad : Option Addr) (c : Nat) (l : List Xx) (at_ : Nat) (w : World) (n : Int) (t : ByteArray) (ih : RdIH f ad c l) (hl : l.length ≤ 1048576) (hR : Row w ad l) (hlt : at_ < l.length) (hf : l.length - at_ ≤ f + 1) (hx : l[at_] = ⟨5, n, t⟩) :
    RdGoal (f + 1) ad c l at_ w := by
  unfold RdGoal
  have hlt' : (at_ : Int) < (l.length : Int) := by omega
  have hnle : ¬ l.length ≤ at_ := by omega
  obtain ⟨b, o, rfl, hb, p0, p1, p2⟩ := hR.tok (Below.refl _ _) hlt
  rw [hx] at p0 p1 p2
  simp only at p0 p1 p2
  have hd : l.drop at_ = ⟨5, n, t⟩ :: l.drop (at_ + 1) := by rw [← hx]; exact List.drop_eq_getElem_cons hlt
  rw [hd]
  have HR := hide hR
  have IH := hide ih
  have HC := hide (l2Strength_any t)
  clear hx hd hR ih
  obtain ⟨i0, hi, hz0, hz1, hz2⟩ := infoParts infoE
  have Hi := hide hi
  clear hi
  by_cases hn : n = 0
  · subst hn
    obtain ⟨S, hS⟩ : ∃ S, S = strN t := ⟨_, rfl⟩
    rw [← hS] at HC
    have hS0 : 0 ≤ S := by rw [hS]; exact strN_nonneg t
    by_cases hg : 0 < S
    · have hgx : goodX ⟨5, 0, t⟩ = true := by simp [goodX, ← hS]; omega
      have hbx : behind ⟨5, 0, t⟩ = 2 := rfl
      have HG := hide hgx
      have HBx := hide hbx
      clear hgx hbx hS
      obtain ⟨Rt, hRt⟩ : ∃ Rt, Rt = rd (f + 1) ((⟨5, 0, t⟩ : Xx) :: l.drop (at_ + 1)) := ⟨_, rfl⟩
      rw [← hRt]
      have HRt := hide hRt
      clear hRt
      go_enter Tryd.func89, Tryd.ntmps89
      go_wp2_with fail
      refine (HC.out _).mono ?_
      rintro e w' ⟨rfl, rfl⟩
      go_wp2_with fail
      go_loopw [1, 8] (fun a8 m8 w' => ∃ sk : Value, Below w.heap.size w w' ∧ w'.heap[w.heap.size]? = some (.cells #[.int .i64 0, .int .i64 0, .string ⟨#[]⟩, .slice none 0 0] 79 (0, 0)) ∧ w'.heap[w.heap.size + 1 + 1]? = some (.cells #[.int .i64 5, .int .i64 0, .string t, sk] 79 (0, 0)) ∧
        ((a8 = .int .i64 ((at_ : Int) + 1) ∧ m8 = .int .i64 2 ∧ sk = .slice none 0 0) ∨
         (∃ (a : E) (r : List Xx) (sa : Value) (wa : World) (lo : Nat), r.length < l.length - (at_ + 1) ∧ a8 = .int .i64 ((l.length - r.length : Nat) : Int) ∧ m8 = .int .i64 1 ∧ rd f (l.drop (at_ + 1)) = some (a, r) ∧ r = l.drop (l.length - r.length) ∧
           w.heap.size + 1 + 1 < lo ∧ lo ≤ wa.heap.size ∧ TrK wa lo a sa ∧ wa.heap.size ≤ w'.heap.size ∧ (∀ k, lo ≤ k → k < wa.heap.size → w'.heap[k]? = wa.heap[k]?) ∧ w'.ownsRow wa.heap.size 79 4 sk 1 (exC a.head sa)) ∨
         (∃ (a b : E) (r : List Xx), r.length ≤ l.length ∧ a8 = .int .i64 ((l.length - r.length : Nat) : Int) ∧ m8 = .int .i64 0 ∧ Rt = some (.two ⟨5, 0, t⟩ a b, r) ∧ TrK w' (w.heap.size + 1) (.two ⟨5, 0, t⟩ a b) sk))) (fun _ m8 _ => (intOf m8).toNat)
      case atStart =>
        refine ⟨.slice none 0 0, (((Below.refl _ _).alloc (Nat.le_refl _) _).alloc (by simp) _).alloc (by simp; omega) _, ?_, ?_, .inl ⟨rfl, rfl, rfl⟩⟩
        · exact heap3_0 _ _ _ _
        · exact heap3_2 _ _ _ _
      case round =>
        obtain ⟨sk, hB, h0, h2, hph⟩ := hrel
        have H0 := hide h0
        have H2 := hide h2
        clear h0 h2
        have hszr := hB.size
        have hsz3 : w.heap.size + 1 + 1 < wr.heap.size := (Array.getElem?_eq_some_iff.1 H2.out).1
        rcases hph with ⟨rfl, rfl, rfl⟩ | ⟨a, r, sa, wa, lo, hrl, rfl, rfl, hrd, hrr, hlo, hlw, hTa, hwa, hKa, hown⟩ | ⟨a, b', r, hrl, rfl, rfl, hRt, hT⟩
        · go_wp2_with fail
          refine Calls.mono (IH.out (at_ + 1) _ (HR.out.below hB) (by omega) (by omega)) ?_
          rintro e w1 ⟨hb1, ho1⟩
          have hsz1 := hb1.size
          have hB1 : Below w.heap.size w w1 := hB.trans (hb1.mono hszr)
          have H01 := hide ((hb1.block _ (by omega)).trans H0.out)
          have H21 := hide ((hb1.block _ hsz3).trans H2.out)
          cases hrd : rd f (l.drop (at_ + 1)) with
          | none =>
            rw [hrd] at ho1
            have e1 : Rt = none := by rw [HRt.out]; exact rd_none1 HG.out (by rw [HBx.out]; omega) hrd
            subst e1
            have ho1' : e = .returned (.tuple #[.agg #[.int .i64 0, .int .i64 0, .string ⟨#[]⟩, .slice none 0 0], .int .i64 0]) := ho1
            subst ho1'
            clear ho1
            have z0 := cell_of_blk H01.out 0
            have z1 := cell_of_blk H01.out 1
            have z2 := cell_of_blk H01.out 2
            have z3 := cell_of_blk H01.out 3
            have fz := unfrozen_of_blk H01.out
            simp only [List.getElem?_toArray, List.getElem?_cons_zero, List.getElem?_cons_succ] at z0 z1 z2 z3
            have hlt1 : w.heap.size < w1.heap.size := (Array.getElem?_eq_some_iff.1 H01.out).1
            go_wp2_with fail
            exact bodyPost_ret (v := .tuple #[.agg #[.int .i64 0, .int .i64 0, .string ⟨#[]⟩, .slice none 0 0], .int .i64 0]) (by simp [results, Tryd.results89, go_sem, *]) rfl ⟨((((hB1.setCell (p := ⟨w.heap.size, 0, none⟩) (Nat.le_refl _) _).setCell (p := ⟨w.heap.size, 1, none⟩) (Nat.le_refl _) _).setCell (p := ⟨w.heap.size, 2, none⟩) (Nat.le_refl _) _).setCell (p := ⟨w.heap.size, 3, none⟩) (Nat.le_refl _) _).alloc (by simp; omega) _, rfl⟩
          | some q =>
            obtain ⟨a, r⟩ := q
            rw [hrd] at ho1
            obtain ⟨hr1, hr2⟩ := rd_rest hrd
            have HRd := hide hrd
            have HR1 := hide hr1
            clear hrd hr1
            obtain ⟨sa, rfl, hT⟩ := ho1
            obtain ⟨sad, sn, sc, rfl⟩ := hT.form
            obtain ⟨xa, hxa⟩ : ∃ xa, xa = a.head := ⟨_, rfl⟩
            rw [← hxa]
            have HXa := hide hxa
            clear hxa
            have HT := hide hT
            clear hT
            have y0 := cell_of_blk H21.out 0
            have y1 := cell_of_blk H21.out 1
            have y2 := cell_of_blk H21.out 2
            have y3 := cell_of_blk H21.out 3
            have fy := unfrozen_of_blk H21.out
            simp only [List.getElem?_toArray, List.getElem?_cons_zero, List.getElem?_cons_succ] at y0 y1 y2 y3
            have hne : ¬ ((l.length - r.length : Nat) : Int) = 0 := by omega
            obtain ⟨E1, hE1⟩ : ∃ E1, E1 = l.length - r.length := ⟨_, rfl⟩
            rw [← hE1] at hne ⊢
            have HE1 := hide hE1
            clear hE1
            have hlt1 : w.heap.size + 1 + 1 < w1.heap.size := (Array.getElem?_eq_some_iff.1 H21.out).1
            go_wp2_with (at_builtin; refine wpList_append_own _ rfl _ _ 77 rfl w1.heap.size 79 i0 (.agg #[.int .i64 0, .int .i64 0, .string ⟨#[]⟩, .slice none 0 0]) 4 56 Tryd.underlying77 Hi.out hz0 hz1 hz2 rfl (by decide) _ _ _ rfl (World.ownsRow_nil _ _ _ _) ⟨w1.heap.size + 1, 0, none⟩ 1 1 (exC xa (.slice sad sn sc)) rfl rfl ?c1 ?c2 ?c3 ?c4 ?c5 ?_)
            case c1 => exact exC_cells (by have := heap_alloc_new (w1.alloc (.cells #[.int .i64 xa.k, .int .i64 xa.n, .string xa.t, .slice sad sn sc] 79)) (.cells #[.int .i64 xa.k, .int .i64 xa.n, .string xa.t, .slice sad sn sc] 79); simpa using this)
            case c2 => exact exC_one _ _ rfl
            case c3 => unfold maxLen; omega
            case c4 => omega
            case c5 => simp; omega
            intro v' w2 hown2 hgrow _
            have hb2 : Below w1.heap.size w1 w2 := (((Below.refl _ _).alloc (Nat.le_refl _) _).alloc (by simp) _).grown hgrow (by simp; omega) (fun k hk => by cases hk)
            have hsz2 := hb2.size
            have H22 := hide ((hb2.block _ hlt1).trans H21.out)
            have H02 := hide ((hb2.block w.heap.size (by omega)).trans H01.out)
            obtain ⟨g, cap, rfl, hg0, hg1⟩ := own_some hown2 (by omega)
            have HO := hide hown2
            clear hown2 hgrow y0 y1 y2 y3 fy
            have y3 := cell_of_blk H22.out 3
            have fy := unfrozen_of_blk H22.out 3
            simp only [List.getElem?_toArray, List.getElem?_cons_zero, List.getElem?_cons_succ] at y3
            go_wp2_with fail
            have hbf : ∀ k, k ≠ w.heap.size + 1 + 1 → (w2.setCell ⟨w.heap.size + 1 + 1, 3, none⟩ (.slice (some ⟨g, 0, none⟩) 1 cap)).heap[k]? = w2.heap[k]? := fun k hk => Below.heap_setCell _ _ _ _ hk
            refine ⟨⟨.slice (some ⟨g, 0, none⟩) 1 cap, (hB1.trans (hb2.mono hB1.size)).setCell (by simp; omega) _, ?_, ?_, .inr (.inl ⟨a, r, .slice sad sn sc, w1, wr.heap.size, hr2, by rw [HE1.out], rfl, HRd.out, HR1.out, by omega, hsz1, HT.out, by simp [World.setCell]; exact hsz2, ?_, ?_⟩)⟩, by simp [intOf]⟩
            · rw [hbf _ (by omega)]; exact H02.out
            · rw [blk_setCell H22.out]; rfl
            · exact fun k hk1 hk2 => (hbf k (by omega)).trans (hb2.block k hk2)
            · rw [← HXa.out]
              exact own_keep HO.out (fun k hk1 hk2 => hbf k (by omega))
        · have HRd := hide hrd
          have HTa := hide hTa
          have HKa := hide hKa
          have HO := hide hown
          obtain ⟨g, cap, rfl, hg0, hg1⟩ := own_some hown (by omega)
          clear hrd hTa hKa hown
          obtain ⟨E0, hE0⟩ : ∃ E0, E0 = l.length - r.length := ⟨_, rfl⟩
          rw [← hE0] at hrr ⊢
          have hE0l : E0 ≤ l.length := by omega
          have hE0f : l.length - E0 ≤ f := by omega
          have HRr := hide hrr
          clear hrr
          have HE0 := hide hE0
          clear hE0
          go_wp2_with fail
          refine Calls.mono (IH.out E0 _ (HR.out.below hB) hE0l hE0f) ?_
          rintro e w1 ⟨hb1, ho1⟩
          have hsz1 := hb1.size
          have hB1 : Below w.heap.size w w1 := hB.trans (hb1.mono hszr)
          have H01 := hide ((hb1.block _ (by omega)).trans H0.out)
          have H21 := hide ((hb1.block _ hsz3).trans H2.out)
          rw [← HRr.out] at ho1
          cases hrd2 : rd f r with
          | none =>
            rw [hrd2] at ho1
            have e1 : Rt = none := by rw [HRt.out]; exact rd_none2 HG.out HBx.out HRd.out hrd2
            subst e1
            have ho1' : e = .returned (.tuple #[.agg #[.int .i64 0, .int .i64 0, .string ⟨#[]⟩, .slice none 0 0], .int .i64 0]) := ho1
            subst ho1'
            clear ho1 hrd2
            have z0 := cell_of_blk H01.out 0
            have z1 := cell_of_blk H01.out 1
            have z2 := cell_of_blk H01.out 2
            have z3 := cell_of_blk H01.out 3
            have fz := unfrozen_of_blk H01.out
            simp only [List.getElem?_toArray, List.getElem?_cons_zero, List.getElem?_cons_succ] at z0 z1 z2 z3
            have hlt1 : w.heap.size < w1.heap.size := (Array.getElem?_eq_some_iff.1 H01.out).1
            go_wp2_with fail
            exact bodyPost_ret (v := .tuple #[.agg #[.int .i64 0, .int .i64 0, .string ⟨#[]⟩, .slice none 0 0], .int .i64 0]) (by simp [results, Tryd.results89, go_sem, *]) rfl ⟨((((hB1.setCell (p := ⟨w.heap.size, 0, none⟩) (Nat.le_refl _) _).setCell (p := ⟨w.heap.size, 1, none⟩) (Nat.le_refl _) _).setCell (p := ⟨w.heap.size, 2, none⟩) (Nat.le_refl _) _).setCell (p := ⟨w.heap.size, 3, none⟩) (Nat.le_refl _) _).alloc (by simp; omega) _, rfl⟩
          | some q =>
            obtain ⟨b', r2⟩ := q
            rw [hrd2] at ho1
            have e1 : Rt = some (.two ⟨5, 0, t⟩ a b', r2) := by rw [HRt.out]; exact rd_two HG.out HBx.out HRd.out hrd2
            have HRt2 := hide e1
            obtain ⟨-, hr2⟩ := rd_rest (l := l) (p := E0) (by rw [← HRr.out]; exact hrd2)
            clear hrd2 e1
            obtain ⟨sb, rfl, hT⟩ := ho1
            obtain ⟨sad, sn, sc, rfl⟩ := hT.form
            obtain ⟨xb, hxb⟩ : ∃ xb, xb = b'.head := ⟨_, rfl⟩
            rw [← hxb]
            have HXb := hide hxb
            clear hxb
            have HT := hide hT
            clear hT
            have y0 := cell_of_blk H21.out 0
            have y1 := cell_of_blk H21.out 1
            have y2 := cell_of_blk H21.out 2
            have y3 := cell_of_blk H21.out 3
            have fy := unfrozen_of_blk H21.out
            simp only [List.getElem?_toArray, List.getElem?_cons_zero, List.getElem?_cons_succ] at y0 y1 y2 y3
            have hne : ¬ ((l.length - r2.length : Nat) : Int) = 0 := by omega
            obtain ⟨E1, hE1⟩ : ∃ E1, E1 = l.length - r2.length := ⟨_, rfl⟩
            rw [← hE1] at hne ⊢
            have HE1 := hide hE1
            clear hE1
            have hlt1 : w.heap.size + 1 + 1 < w1.heap.size := (Array.getElem?_eq_some_iff.1 H21.out).1
            have hown1 := own_below HO.out hb1
            go_wp2_with (at_builtin; refine wpList_append_own _ rfl _ _ 77 rfl wa.heap.size 79 i0 (.agg #[.int .i64 0, .int .i64 0, .string ⟨#[]⟩, .slice none 0 0]) 4 56 Tryd.underlying77 Hi.out hz0 hz1 hz2 rfl (by decide) _ _ _ rfl ((hown1.alloc _).alloc _) ⟨w1.heap.size + 1, 0, none⟩ 1 1 (exC xb (.slice sad sn sc)) rfl rfl ?c1 ?c2 ?c3 ?c4 ?c5 ?_)
            case c1 => exact exC_cells (by have := heap_alloc_new (w1.alloc (.cells #[.int .i64 xb.k, .int .i64 xb.n, .string xb.t, .slice sad sn sc] 79)) (.cells #[.int .i64 xb.k, .int .i64 xb.n, .string xb.t, .slice sad sn sc] 79); simpa using this)
            case c2 => exact exC_one _ _ rfl
            case c3 => unfold maxLen; omega
            case c4 => omega
            case c5 => simp; omega
            intro v' w2 hown2 hgrow _
            have hb2 : Below wa.heap.size w1 w2 := (((Below.refl _ _).alloc (by omega) _).alloc (by simp; omega) _).grown hgrow (by simp; omega) (fun k hk => (hown1.lt k hk).1)
            have hk2 : ∀ k, k ≠ g → k < w1.heap.size → w2.heap[k]? = w1.heap[k]? := fun k hk hlt => by
              rw [hgrow.block k (by simp; omega) (by simp only [Value.ownBlock, ne_eq, Option.some.injEq]; exact hk), heap_alloc_old _ _ (by simp; omega), heap_alloc_old _ _ hlt]
            have hsz2 := hb2.size
            have H22 := hide ((hb2.block _ (show w.heap.size + 1 + 1 < wa.heap.size by omega)).trans H21.out)
            have H02 := hide ((hb2.block w.heap.size (by omega)).trans H01.out)
            have hL := Lies.own hown2 (by omega)
            obtain ⟨g', cap', rfl, hg0', hg1', hgc⟩ := hL
            have HL := hide hgc
            have HK2 := hide hk2
            clear hown2 hown1 hgrow hgc y0 y1 y2 y3 fy hk2
            have y3 := cell_of_blk H22.out 3
            have fy := unfrozen_of_blk H22.out 3
            simp only [List.getElem?_toArray, List.getElem?_cons_zero, List.getElem?_cons_succ] at y3
            go_wp2_with fail
            have hbf : ∀ k, k ≠ w.heap.size + 1 + 1 → (w2.setCell ⟨w.heap.size + 1 + 1, 3, none⟩ (.slice (some ⟨g', 0, none⟩) 2 cap')).heap[k]? = w2.heap[k]? := fun k hk => Below.heap_setCell _ _ _ _ hk
            have hss : (w2.setCell ⟨w.heap.size + 1 + 1, 3, none⟩ (.slice (some ⟨g', 0, none⟩) 2 cap')).heap.size = w2.heap.size := by simp [World.setCell]
            refine ⟨⟨.slice (some ⟨g', 0, none⟩) 2 cap', (hB1.trans (hb2.mono (by omega))).setCell (by simp; omega) _, ?_, ?_, .inr (.inr ⟨a, b', r2, by omega, by rw [HE1.out], rfl, HRt2.out, sa, .slice sad sn sc, ?_, ?_, ?_⟩)⟩, by simp [intOf]⟩
            · rw [hbf _ (by omega)]; exact H02.out
            · rw [blk_setCell H22.out]; rfl
            · refine TrK.lower (lo := lo) (by omega) (TrK.keep (w := wa) (by rw [hss]; omega) (fun k hk1 hk2 => ?_) HTa.out)
              rw [hbf k (by omega), hb2.block k hk2, hb1.block k (by omega)]
              exact HKa.out k hk1 hk2
            · refine TrK.lower (lo := wr.heap.size) (by omega) (TrK.keep (w := w1) (by rw [hss]; exact hsz2) (fun k hk1 hk2 => ?_) HT.out)
              rw [hbf k (by omega)]
              exact HK2.out k (by omega) hk2
            · rw [← HXb.out]
              exact Lies.lower (lo := wa.heap.size) (Lies.keep (w := w2) ⟨g', cap', rfl, hg0', hg1', HL.out⟩ (by rw [hss]; exact Nat.le_refl _) (fun k hk1 hk2 => hbf k (by omega))) (by omega)
        · have z0 := cell_of_blk H0.out 0
          have z1 := cell_of_blk H0.out 1
          have z2 := cell_of_blk H0.out 2
          have z3 := cell_of_blk H0.out 3
          have fz := unfrozen_of_blk H0.out
          have y0 := cell_of_blk H2.out 0
          have y1 := cell_of_blk H2.out 1
          have y2 := cell_of_blk H2.out 2
          have y3 := cell_of_blk H2.out 3
          simp only [List.getElem?_toArray, List.getElem?_cons_zero, List.getElem?_cons_succ] at z0 z1 z2 z3 y0 y1 y2 y3
          subst hRt
          obtain ⟨sa, sb, hTa, hTb, g, cap, rfl, hg0, hg1, hgc⟩ := hT
          have HTa := hide hTa
          have HTb := hide hTb
          have HGc := hide hgc
          clear hTa hTb hgc
          go_wp2_with fail
          refine bodyPost_ret (v := .tuple #[.agg #[.int .i64 5, .int .i64 0, .string t, .slice (some ⟨g, 0, none⟩) 2 cap], .int .i64 ((l.length - r.length : Nat) : Int)]) (by simp [results, Tryd.results89, go_sem, *]) rfl ⟨(((hB.setCell (p := ⟨w.heap.size, 0, none⟩) (Nat.le_refl _) _).setCell (p := ⟨w.heap.size, 1, none⟩) (Nat.le_refl _) _).setCell (p := ⟨w.heap.size, 2, none⟩) (Nat.le_refl _) _).setCell (p := ⟨w.heap.size, 3, none⟩) (Nat.le_refl _) _, _, rfl, ?_⟩
          refine TrK.lower (lo := w.heap.size + 1) (by omega) (TrK.keep (w := wr) (by simp [World.setCell]) (fun k hk1 hk2 => ?_) (show TrK wr (w.heap.size + 1) (.two ⟨5, 0, t⟩ a b') _ from ⟨sa, sb, HTa.out, HTb.out, g, cap, rfl, hg0, hg1, HGc.out⟩))
          have hkn : k ≠ w.heap.size := by omega
          rw [Below.heap_setCell _ _ _ _ hkn, Below.heap_setCell _ _ _ _ hkn, Below.heap_setCell _ _ _ _ hkn, Below.heap_setCell _ _ _ _ hkn]
    · have hgx : goodX ⟨5, 0, t⟩ = false := by
        have : strN t = 0 := by omega
        simp [goodX, this]
      rw [rd_bad hgx]
      obtain rfl : S = 0 := by omega
      clear hgx hS hg hS0
      go_enter Tryd.func89, Tryd.ntmps89
      go_wp2_with fail
      refine (HC.out _).mono ?_
      rintro e w' ⟨rfl, rfl⟩
      go_wp2_with fail
      exact bodyPost_ret (v := .tuple #[.agg #[.int .i64 0, .int .i64 0, .string ⟨#[]⟩, .slice none 0 0], .int .i64 0]) (by simp [results, Tryd.results89, go_sem]) rfl ⟨(((Below.refl _ _).alloc (Nat.le_refl _) _).alloc (by simp) _).alloc (by simp; omega) _, rfl⟩
  · have hgx : goodX ⟨5, n, t⟩ = false := by simp [goodX, hn]
    rw [rd_bad hgx]
    clear hgx
    go_enter Tryd.func89, Tryd.ntmps89
    go_wp2_with fail
    exact bodyPost_ret (v := .tuple #[.agg #[.int .i64 0, .int .i64 0, .string ⟨#[]⟩, .slice none 0 0], .int .i64 0]) (by simp [results, Tryd.results89, go_sem]) rfl ⟨(((Below.refl _ _).alloc (Nat.le_refl _) _).alloc (by simp) _).alloc (by simp; omega) _, rfl⟩

end Go.Proofs.YtjffignbiabmaaaDoor.W

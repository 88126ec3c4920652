/-
  Rows of parts of one's own; what stands ahead of signs, brackets and all, by the program: contracts of readOne, readAhead, readBrackets, readFrom. Conditions: at most 1000 tokens; the table of signs as its text lays it.
-/
import Derived.Test.YtmnicilgenpnfaaDoorPxB
import Derived.Test.YtmnicilgenpnfaaDoorExR
import Derived.Test.YtmnicilgenpnfaaDoorApS
import Derived.Test.YtmnicilgenpnfaaDoorTree
import Derived.Deep.RegionHeld3
import Derived.Laws.AppendOwnNone
namespace Go.Proofs.YtmnicilgenpnfaaDoor.W
open Go.ChangeShapes Go.WideShapes Go.ChangeAt Go.RowKit
set_option linter.unusedVariables false
set_option linter.unusedSimpArgs false

/-- Parts as cells. -/
def xcv : List Xx → List Value
  | [] => []
  | x :: l => .int .i64 x.k :: .int .i64 x.n :: .string x.t :: xcv l
theorem xcv_len : ∀ l : List Xx, (xcv l).length = l.length * 3
  | [] => rfl
  | x :: l => by simp [xcv, xcv_len l]; omega
theorem xcv_app : ∀ a b : List Xx, xcv (a ++ b) = xcv a ++ xcv b
  | [], b => rfl
  | x :: a, b => by simp [xcv, xcv_app a b]
theorem xcv_one : ∀ (l : List Xx), ∀ u ∈ xcv l, u.oneCell' = true
  | [], u, h => by cases h
  | x :: l, u, h => by
    simp only [xcv, List.mem_cons] at h
    rcases h with rfl | rfl | rfl | h
    · rfl
    · rfl
    · rfl
    · exact xcv_one l u h
/-- What is put behind a row: nothing, or cells. -/
def PtX (w : World) (u : Value) (m : Nat) (vs : List Value) : Prop :=
  (u = .slice none 0 0 ∧ m = 0 ∧ vs = []) ∨ ∃ ad c, u = .slice (some ad) m c ∧ vs.length = m * 3 ∧ (∀ j x, vs[j]? = some x → w.cell? (ad.add j) = some x) ∧ (∀ x ∈ vs, x.oneCell' = true)
theorem wpList_append_x {w : World} {ops : Array Oper} {rest : List Oper} {o : Oper} {a : Act} {Q : Exit → Act → World → Prop} (hgd : o.guard = none) (s x : Operand)
    (ho : o.op = .call { callee := .builtin .append, args := #[s, x], argTypes := #[22, 22] })
    (base : Nat) (v : Value) (n : Nat) (xs : List Value) (hs : a.eval s = v) (hown : w.ownsRow base 47 3 v n xs) (u : Value) (m : Nat) (vs : List Value) (hx : a.eval x = u) (hu : PtX w u m vs) (hnm : n + m ≤ 1048576) (hbase : base ≤ w.heap.size)
    (h : ∀ v' w', w'.ownsRow base 47 3 v' (n + m) (xs ++ vs) → w.grownBy w' v.ownBlock → wpList Tryd.prog ops Q rest (a.put o.dst v') w') : wpList Tryd.prog ops Q (o :: rest) a w := by
  obtain ⟨i0, hi0, hz0, hz1, hz2⟩ := infoParts infoEx
  refine wpList_plain hgd fun K hK => ?_
  rcases hu with ⟨rfl, rfl, rfl⟩ | ⟨ad, c, rfl, h2, h3, h4⟩
  · have hr := run_append_owned_none (P := Tryd.prog) (w := w) base 22 o.type 47 i0 3 Tryd.underlying22 hi0 v n xs hown
    unfold Oper.wp execOp
    simp only [ho, resolve, invoke, builtin, Sem.run_bind, Sem.run_pure, Result.andThen_ok, List.map_toArray, List.map_cons, List.map_nil, hs, hx, hr]
    exact hK _ _ (h v w (by simpa using hown) (World.grownBy.refl _ _))
  · obtain ⟨v', w', hr, g2, g3, -⟩ := run_append_sep (P := Tryd.prog) w base 22 o.type 47 i0 (.agg #[.int .i64 0, .int .i64 0, .string ⟨#[]⟩]) 3 32 Tryd.underlying22 hi0 hz0 hz1 hz2 rfl (by decide) v n xs hown ad m c vs h2 h3 h4 (by unfold maxLen; omega) (by omega) hbase
    unfold Oper.wp execOp
    simp only [ho, resolve, invoke, builtin, Sem.run_bind, Sem.run_pure, Result.andThen_ok, List.map_toArray, List.map_cons, List.map_nil, hs, hx, hr]
    exact hK _ _ (h v' w' g2 g3)
/-- A row of one's own as what is put behind. -/
theorem PtX.own {w : World} {base n : Nat} {v : Value} {l : List Xx} (h : w.ownsRow base 47 3 v n (xcv l)) : PtX w v n (xcv l) := by
  have hl := h.1
  rcases h.2 with ⟨h1, h2⟩ | ⟨g, cap, cur, h1, hg, hh, h2, h3, h4, h5⟩
  · subst h1
    have : xcv l = [] := List.eq_nil_of_length_eq_zero (by rw [hl, h2])
    exact .inl ⟨rfl, h2, this⟩
  · subst h1
    refine .inr ⟨⟨g, 0, none⟩, cap, rfl, hl, fun j x hx => ?_, xcv_one l⟩
    have hj : j < n * 3 := by have := (List.getElem?_eq_some_iff.1 hx).1; omega
    rw [Addr.add_lit, Nat.zero_add, cell_of_blk hh]
    rw [← h5, List.getElem?_take_of_lt hj] at hx
    simpa using hx
theorem PtX.nil {w : World} : PtX w (.slice none 0 0) 0 (xcv []) := .inl ⟨rfl, rfl, rfl⟩
/-- A new row of one part. -/
theorem own_new1 {w : World} {g base : Nat} {k n : Int} {t : ByteArray} (h : w.heap[g]? = some (.cells #[.int .i64 k, .int .i64 n, .string t] 47 (0, 0))) (hb : base ≤ g) : w.ownsRow base 47 3 (.slice (some ⟨g, 0, none⟩) 1 1) 1 (xcv [⟨k, n, t⟩]) :=
  ⟨rfl, .inr ⟨g, 1, #[.int .i64 k, .int .i64 n, .string t], rfl, hb, h, Nat.le_refl _, by unfold maxLen; omega, rfl, rfl⟩⟩
theorem own_lower' {w : World} {base base' n size : Nat} {e : TypeId} {v : Value} {xs : List Value} (h : w.ownsRow base e size v n xs) (hb : base' ≤ base) : w.ownsRow base' e size v n xs := by
  refine ⟨h.1, ?_⟩
  rcases h.2 with h1 | ⟨g, cap, cur, hv, hg, rest⟩
  · exact .inl h1
  · exact .inr ⟨g, cap, cur, hv, by omega, rest⟩
theorem own_form' {w : World} {base n size : Nat} {e : TypeId} {v : Value} {xs : List Value} (h : w.ownsRow base e size v n xs) : ∃ ad c, v = .slice ad n c := by
  rcases h.2 with ⟨h1, h2⟩ | ⟨g, cap, cur, hv, _⟩
  · exact ⟨none, 0, by rw [h1, h2]⟩
  · exact ⟨_, _, hv⟩
theorem own_gr {w w' : World} {base n size g : Nat} {e : TypeId} {v : Value} {xs : List Value} (h : w.ownsRow base e size v n xs) (hg : w.grownBy w' (some g)) (hn : g < base) : w'.ownsRow base e size v n xs := own_keep h (fun k h1 h2 => hg.block k h2 (fun e => by simp at e; omega))

/-- A new block filled, seen from a world ahead. -/
theorem gr_mix {a b c : World} {g : Nat} {o : Obj} (h1 : a.grownBy b (some g)) (h2 : (b.alloc o).grownBy c (some b.heap.size)) : a.grownBy c (some g) := by
  have hs := h2.size
  simp at hs
  refine ⟨h2.os.trans h1.os, h2.tape.trans h1.tape, h2.output.trans h1.output, by have := h1.size; omega, fun k hk hn => ?_⟩
  have hk2 : k < b.heap.size := Nat.lt_of_lt_of_le hk h1.size
  exact ((h2.block k (by simp; omega) (fun e => by simp at e; omega)).trans (heap_alloc_old _ _ hk2)).trans (h1.block k hk hn)
theorem Bk.mix {b c : World} {g : Nat} {o : Obj} {cs : Array Value} {T : TypeId} (h : Bk b g cs T) (h2 : (b.alloc o).grownBy c (some b.heap.size)) : Bk c g cs T :=
  ((h2.block g (by have := h.lt; simp; omega) (fun e => by have := h.lt; simp at e; omega)).trans (heap_alloc_old _ _ h.lt)).trans h
/-- What the reader leans on. -/
structure Env (w : World) (g : Nat) (ta : Option Addr) (l : List T.Tk) : Prop where
  row : T.Row w ta l
  tab : SgTab w
  apart : ∀ b o, ta = some ⟨b, o, none⟩ → b ≠ g
  far : 0 ≠ g
theorem Env.grown {w w' : World} {g : Nat} {ta : Option Addr} {l : List T.Tk} (h : Env w g ta l) (hg : w.grownBy w' (some g)) : Env w' g ta l := by
  refine ⟨h.row.grown hg h.apart, ?_, h.apart, h.far⟩
  obtain ⟨t, fr, hr⟩ := h.tab.row
  have hr' := (hg.block _ (Array.getElem?_eq_some_iff.1 hr).1 (fun e => h.far (by simpa using e))).trans hr
  have h0 := h.tab
  unfold SgTab World.var? at h0 ⊢
  simp only [gSg, Option.bind_some] at h0 ⊢
  rw [hr] at h0
  rw [hr']
  first | done | exact h0

/-- How a reader of the program ends. -/
def PO (w : World) (g : Nat) (ta : Option Addr) (n tc d : Nat) (z : Rz) (e : Ending) (w' : World) : Prop := match z with
  | .ok E q => ∃ v, e = .returned (.tuple #[v, .bool true]) ∧ w'.ownsRow w.heap.size 47 3 v E.flat.length (xcv E.flat) ∧ Bk w' g (rdC ta n tc q d false) 40 ∧ w.grownBy w' (some g)
  | .bad q t => e = .returned (.tuple #[.slice none 0 0, .bool false]) ∧ (∃ d', Bk w' g (rdC ta n tc q d' t) 40) ∧ w.grownBy w' (some g)
/-- The four contracts, with so many steps. -/
def PS (g : Nat) (ta : Option Addr) (tc : Nat) (l : List T.Tk) (f : Nat) : Prop :=
  (∀ (d p : Nat) (w : World), d ≤ 100 → p ≤ l.length → 4 * (l.length - p) + 1 ≤ f → Env w g ta l → Bk w g (rdC ta l.length tc p d false) 40 → Calls Tryd.prog 23 #[.pointer (some ⟨g, 0, none⟩)] w (PO w g ta l.length tc d (rOne l f d p))) ∧
  (∀ (k : Int) (d p : Nat) (w : World), d ≤ 100 → p < l.length → 4 * (l.length - p) ≤ f → Env w g ta l → Bk w g (rdC ta l.length tc p d false) 40 → Calls Tryd.prog 36 #[.pointer (some ⟨g, 0, none⟩), .int .i64 k] w (PO w g ta l.length tc d (rAhead l f k d p))) ∧
  (∀ (d p : Nat) (w : World), d ≤ 100 → p < l.length → 4 * (l.length - p) ≤ f → Env w g ta l → Bk w g (rdC ta l.length tc p d false) 40 → Calls Tryd.prog 37 #[.pointer (some ⟨g, 0, none⟩)] w (PO w g ta l.length tc d (rBr l f d p))) ∧
  (∀ (least : Int) (d p : Nat) (w : World), 1 ≤ least → d ≤ 100 → p ≤ l.length → 4 * (l.length - p) + 2 ≤ f → Env w g ta l → Bk w g (rdC ta l.length tc p d false) 40 → Calls Tryd.prog 14 #[.pointer (some ⟨g, 0, none⟩), .int .i64 least] w (PO w g ta l.length tc d (rFrom l f least d p)))

set_option maxRecDepth 20000 in
set_option maxHeartbeats 4000000 in
theorem readAhead_step (g : Nat) (ta : Option Addr) (tc : Nat) (l : List T.Tk) (f : Nat) (hl : l.length ≤ 1000) (ih : PS g ta tc l f) (k : Int) (d p : Nat) (w : World) (hd : d ≤ 100) (hp : p < l.length) (hf : 4 * (l.length - p) ≤ f + 1) (he : Env w g ta l) (hb : Bk w g (rdC ta l.length tc p d false) 40) :
    Calls Tryd.prog 36 #[.pointer (some ⟨g, 0, none⟩), .int .i64 k] w (PO w g ta l.length tc d (rAhead l (f + 1) k d p)) := by
  have HG := hide (goIn_any g ta l.length tc p d w (by omega) (by omega) hb)
  have hz : rAhead l (f + 1) k d p = if 100 ≤ d then .bad (p + 1) true else match rOne l f (d + 1) (p + 1) with | .ok e q => .ok (.one ⟨k, 0, ⟨#[]⟩⟩ e) q | .bad q t => .bad q t := by rw [rAhead]; rfl
  rw [hz]
  have hgl := hb.lt
  by_cases h100 : 100 ≤ d
  · rw [if_pos h100]
    rw [decide_eq_true h100] at HG
    unfold PO
    clear hz ih he hb
    go_enter Tryd.func36, Tryd.ntmps36
    go_wp2_with fail
    refine Calls.mono HG.out ?_
    rintro e w1 ⟨rfl, hb1, hg1⟩
    have HB1 := hide hb1
    have HG1 := hide hg1
    clear hb1 hg1 HG
    go_wp2_with fail
    exact bodyPost_ret (v := .tuple #[.slice none 0 0, .bool false]) (by simp [results, Tryd.results36, go_sem]) rfl ⟨rfl, ⟨_, HB1.out⟩, HG1.out⟩
  · rw [if_neg h100]
    rw [decide_eq_false h100] at HG
    have hA := (after_all l f).1 (d + 1) (p + 1) (by omega)
    have HI := hide (fun (w' : World) (h1 : Env w' g ta l) (h2 : Bk w' g (rdC ta l.length tc (p + 1) (d + 1) false) 40) => ih.1 (d + 1) (p + 1) w' (by omega) (by omega) (by omega) h1 h2)
    have HE := hide he
    obtain ⟨Z, hZ⟩ : ∃ Z, Z = rOne l f (d + 1) (p + 1) := ⟨_, rfl⟩
    rw [← hZ] at HI hA ⊢
    clear hz ih he hb hZ
    cases Z with
    | bad q t =>
      unfold PO at HI ⊢
      simp only at HI ⊢
      go_enter Tryd.func36, Tryd.ntmps36
      go_wp2_with fail
      refine Calls.mono HG.out ?_
      rintro e w1 ⟨rfl, hb1, hg1⟩
      have HB1 := hide hb1
      have HG1 := hide hg1
      have HE1 := hide (HE.out.grown hg1)
      clear hb1 hg1 HG HE
      go_wp2_with fail
      refine Calls.mono (HI.out _ HE1.out HB1.out) ?_
      rintro e w2 ⟨rfl, ⟨d', hb2⟩, hg2⟩
      have HB2 := hide hb2
      have HG2 := hide (gr_trans HG1.out hg2)
      clear hb2 hg2 HI HB1 HE1
      go_wp2_with fail
      exact bodyPost_ret (v := .tuple #[.slice none 0 0, .bool false]) (by simp [results, Tryd.results36, go_sem]) rfl ⟨rfl, ⟨d', HB2.out⟩, HG2.out⟩
    | ok ee q =>
      have hfl : ee.flat.length ≤ 1000 := by obtain ⟨a1, a2, a3⟩ := hA; omega
      unfold PO at HI ⊢
      simp only at HI ⊢
      go_enter Tryd.func36, Tryd.ntmps36
      go_wp2_with fail
      refine Calls.mono HG.out ?_
      rintro e w1 ⟨rfl, hb1, hg1⟩
      have HB1 := hide hb1
      have HG1 := hide hg1
      have HE1 := hide (HE.out.grown hg1)
      have hs1 := hg1.size
      clear hb1 hg1 HG HE
      go_wp2_with fail
      refine Calls.mono (HI.out _ HE1.out HB1.out) ?_
      rintro e w2 ⟨v, rfl, ho2, hb2, hg2⟩
      obtain ⟨va, vc, rfl⟩ := own_form' ho2
      have c := hb2.c
      have fz := hb2.f
      unfold rdC at c
      have HB2 := hide hb2
      have HG2 := hide (gr_trans HG1.out hg2)
      have HO2 := hide ho2
      have hs2 := hg2.size
      obtain ⟨FL, hFL⟩ : ∃ FL, FL = ee.flat := ⟨_, rfl⟩
      rw [← hFL] at HO2 hfl ⊢
      have HFL := hide hFL
      have hdn : ((d + 1 : Nat) : Int) = (d : Int) + 1 := by omega
      rw [hdn] at c
      clear hb2 hg2 ho2 HI HB1 HE1 HG1 hFL hdn hA
      go_upto_region 7 with fail
      obtain ⟨W, hW⟩ : ∃ W, W = w2.setCell ⟨g, 2, none⟩ (.int .i64 (d : Int)) := ⟨_, rfl⟩
      rw [← hW]
      have HGW : Hid (w.grownBy W (some g)) := hide (by rw [hW]; exact gr_set HG2.out _ _)
      have HBW : Hid (Bk W g (rdC ta l.length tc q d false) 40) := hide (by
        have hz := HB2.out.set 2 (.int .i64 (d : Int))
        simp only [rdC, List.setIfInBounds_toArray, List.set_cons_zero, List.set_cons_succ] at hz
        rw [hW]; exact hz)
      have HOW := hide (own_gr HO2.out (gr_set (gr_refl w2 (some g)) 2 (.int .i64 (d : Int))) (by omega))
      rw [← hW] at HOW
      have hsW := HGW.out.size
      clear hW c fz HB2 HG2 HO2 hs1 hs2
      go_wp2_with (at_builtin; refine wpList_append_x rfl _ _ rfl w.heap.size _ 1 (xcv [⟨k, 0, ⟨#[]⟩⟩]) rfl (own_new1 (heap_alloc_new W _) hsW) _ FL.length (xcv FL) rfl (PtX.own (HOW.out.alloc _)) (by omega) (by simp; omega) ?_)
      intro v4 w4 ho4 hg4
      obtain ⟨a4, c4, rfl⟩ := own_form' ho4
      have HO4 := hide ho4
      have HG4 := hide (gr_mix HGW.out hg4)
      have HB4 := hide (HBW.out.mix hg4)
      clear ho4 hg4 HGW HBW HOW
      go_wp2_with fail
      have e1 : (E.one ⟨k, 0, ⟨#[]⟩⟩ ee).flat = ⟨k, 0, ⟨#[]⟩⟩ :: FL := by rw [HFL.out]; rfl
      refine bodyPost_ret (v := .tuple #[.slice a4 (1 + FL.length) c4, .bool true]) (by simp [results, Tryd.results36, go_sem]) rfl ⟨_, rfl, ?_, HB4.out, HG4.out⟩
      rw [e1, List.length_cons, Nat.add_comm FL.length 1]
      exact HO4.out
end Go.Proofs.YtmnicilgenpnfaaDoor.W

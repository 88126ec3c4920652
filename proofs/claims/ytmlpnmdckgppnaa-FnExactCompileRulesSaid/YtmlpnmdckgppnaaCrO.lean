/-
  All nodes of some askings: (impl.Data).withNodes. Conditions: good data, askings of at most 1000 cells in all, at most 200 nodes ahead.
-/
import Derived.Test.YtmlpnmdckgppnaaCrN
namespace Go.Proofs.Ytmlpnmdckgppnaa.W
open Go.ChangeShapes Go.WideShapes Go.ChangeAt Go.RowKit
set_option linter.unusedVariables false
set_option linter.unusedSimpArgs false

/-- The nodes of some askings' sides. -/
def sdL (g : List Aq → List Nd → List Nd) (i : Nat) : List (List Aq) → List Nd → List Nd
  | [], ns => ns
  | s :: ss, ns => if 200 < ns.length then ns else sdL g i ss (g s (setN i ns))
theorem sdP_sdL (g : List Aq → List Nd → List Nd) (i : Nat) (p : List Int) (l : List Aq) : ∀ (m c : Nat) (ns : List Nd), sdP g i p l m c ns = sdL g i ((List.range' c m).map (fun c : Nat => ansAll p (c : Int) l)) ns
  | 0, c, ns => rfl
  | m + 1, c, ns => by
    show (if 200 < ns.length then ns else sdP g i p l m (c + 1) (g (ansAll p (c : Int) l) (setN i ns))) = _
    rw [List.range'_succ, List.map_cons, sdL, sdP_sdL g i p l m (c + 1)]
theorem cmpP_ndR (m n : Nat) (l : List Aq) (ns : List Nd) : cmpP m (n + 1) l ns = sdL (cmpP m n) ns.length (ndR m l).2.2 (ns ++ [⟨(ndR m l).1, (ndR m l).2.1, []⟩]) := by
  cases l with
  | nil => rfl
  | cons r l =>
    cases hq : r.q with
    | nil => simp only [cmpP, ndR, hq]; rfl
    | cons a q => simp only [cmpP, ndR, hq]; rw [sdP_sdL, List.range_eq_range']
/-- What is told of an asking's sides. -/
structure SdOk (D : List Int) (n : Nat) (s : List Aq) : Prop where
  sz : lsz s < n
  few : lsz s ≤ 1000
  len : s.length ≤ 1000
  lok : Lok s
  ok : ∀ r ∈ s, QokD D r.q
theorem ndR_sides {D : List Int} {m n : Nat} {l : List Aq} (h : SdOk D (n + 1) l) : ∀ s ∈ (ndR m l).2.2, SdOk D n s := by
  intro s hs
  cases l with
  | nil => simp [ndR] at hs
  | cons r l =>
    cases hq : r.q with
    | nil => simp [ndR, hq] at hs
    | cons a q =>
      simp only [ndR, hq, List.mem_map] at hs
      obtain ⟨c, -, rfl⟩ := hs
      have h1 := ansAll_lt (c := (c : Int)) (l := l) hq
      have h2 := ansAll_few a.p (c : Int) (r :: l)
      have h3 := h.sz
      have h4 := h.few
      have h5 := h.len
      exact ⟨by omega, by omega, by omega, ansAll_ok h.lok, ansAll_okD h.ok⟩
theorem ndR_path {D : List Int} {m : Nat} {l : List Aq} (h : ∀ r ∈ l, QokD D r.q) : (ndR m l).2.1.length ≤ 1000 := by
  cases l with
  | nil => simp [ndR]
  | cons r l =>
    cases hq : r.q with
    | nil => simp [ndR, hq]
    | cons a q =>
      simp only [ndR, hq]
      have := (h r (by simp) a (by rw [hq]; simp)).2
      omega
theorem ndR_few (m : Nat) (l : List Aq) : (ndR m l).2.2.length ≤ m := by
  cases l with
  | nil => simp [ndR]
  | cons r l =>
    cases hq : r.q with
    | nil => simp [ndR, hq]
    | cons a q => simp [ndR, hq]
/-- How many next ones there are in all. -/
def tot (ns : List Nd) : Nat := (ns.map (fun n => n.next.length)).sum
theorem tot_cons (a : Nd) (ns : List Nd) : tot (a :: ns) = a.next.length + tot ns := by simp [tot]
theorem tot_app (a b : List Nd) : tot (a ++ b) = tot a + tot b := by simp [tot]
theorem tot_mem {ns : List Nd} {a : Nd} (h : a ∈ ns) : a.next.length ≤ tot ns := by
  induction ns with
  | nil => cases h
  | cons b ns ih =>
    rw [tot_cons]
    rcases List.mem_cons.1 h with e | h
    · subst e; omega
    · have := ih h; omega
theorem tot_mod (x : Int) : ∀ (i : Nat) (ns : List Nd), tot (ns.modify i (fun n => { n with next := n.next ++ [x] })) ≤ tot ns + 1
  | i, [] => by simp [tot]
  | 0, a :: ns => by rw [List.modify_zero_cons, tot_cons, tot_cons]; simp; omega
  | i + 1, a :: ns => by rw [List.modify_succ_cons, tot_cons, tot_cons]; have := tot_mod x i ns; omega
theorem tot_setN (i : Nat) (ns : List Nd) : tot (setN i ns) ≤ tot ns + 1 := tot_mod _ i ns
theorem sdL_tot {g : List Aq → List Nd → List Nd} {i : Nat} : ∀ (ss : List (List Aq)) (ns : List Nd), (∀ s ∈ ss, ∀ ns, tot (g s ns) + ns.length + 1 ≤ tot ns + (g s ns).length) → tot (sdL g i ss ns) + ns.length ≤ tot ns + (sdL g i ss ns).length
  | [], ns, _ => by simp [sdL]
  | s :: ss, ns, h => by
    unfold sdL
    split
    · omega
    · have h1 := h s (by simp) (setN i ns)
      have h2 := tot_setN i ns
      have h3 := setN_length i ns
      have h4 := sdL_tot ss (g s (setN i ns)) (fun t ht => h t (List.mem_cons_of_mem s ht)) (i := i)
      omega
theorem cmpP_tot (D : List Int) (m : Nat) : ∀ (n : Nat) (l : List Aq) (ns : List Nd), SdOk D n l → tot (cmpP m n l ns) + ns.length + 1 ≤ tot ns + (cmpP m n l ns).length
  | 0, l, ns, h => absurd h.sz (Nat.not_lt_zero _)
  | n + 1, l, ns, h => by
    rw [cmpP_ndR]
    have h1 := sdL_tot (g := cmpP m n) (i := ns.length) (ndR m l).2.2 (ns ++ [⟨(ndR m l).1, (ndR m l).2.1, []⟩]) (fun s hs ns => cmpP_tot D m n s ns (ndR_sides h s hs))
    have h2 : tot (ns ++ [⟨(ndR m l).1, (ndR m l).2.1, []⟩]) = tot ns := by rw [tot_app]; simp [tot]
    have h3 : (ns ++ [(⟨(ndR m l).1, (ndR m l).2.1, []⟩ : Nd)]).length = ns.length + 1 := by simp
    omega
theorem infoNd : (Try.prog.info? 65).map (fun i => (i.zero, i.size, i.bytes)) = some (some (.agg #[.int .i64 0, .slice none 0 0, .slice none 0 0]), 3, 56) := by kernel_rfl
theorem threeC_cells {w : World} {g : Nat} {v u x : Value} {t : TypeId} (h : w.heap[g]? = some (.cells #[v, u, x] t (0, 0))) :
    ∀ j y, [v, u, x][j]? = some y → w.cell? ((⟨g, 0, none⟩ : Addr).add j) = some y := by
  intro j y hx
  rw [Addr.add_lit, Nat.zero_add, cell_of_blk h]
  match j with
  | 0 => simpa using hx
  | 1 => simpa using hx
  | 2 => simpa using hx
  | j + 3 => simp at hx
theorem own_ivN {w : World} {base n : Nat} {v : Value} {l : List Int} (h : w.ownsRow base 3 1 v n (rcells 1 iC l)) (hn : n = l.length) (hl : l.length ≤ 1048576) : IV w v l := by
  obtain ⟨ad, c, rfl⟩ := own_form h
  exact ⟨ad, c, by rw [hn], RRow.ofOwn h hn, hl⟩
theorem St.drow {O : Nat → Prop} {w : World} {v : Value} {D : List Int} {ad : Option Addr} {c : Nat} (e : v = .agg #[.slice ad D.length c]) (h : IRow w ad D) (hl : D.length ≤ 1048576) (ho : ∀ b, ad.map (·.block) = some b → ¬ O b) : St O w (DRow · v D) := by
  intro w' hw
  exact ⟨ad, c, e, rrow_keep h hw.size (fun a ha hlt => hw.block _ hlt (ho _ (by rw [ha]; rfl))), hl⟩
/-- What a walk wants of one side. -/
theorem SdS.at {O : Nat → Prop} {w : World} {ad : Option Addr} {n c : Nat} {Ls : List (List Aq)} (hn : n = Ls.length) (h : SdS O w (.slice ad n c) Ls) {j : Nat} (hj : j < Ls.length) : ∃ b o x, ad = some ⟨b, o, none⟩ ∧ b < w.heap.size ∧ w.cell? ⟨b, o + j, none⟩ = some x ∧ AqS O w x Ls[j] := by
  subst hn
  obtain ⟨xs, h1, h2⟩ := h
  obtain ⟨x, e1, e2⟩ := h2 j hj
  obtain ⟨b, o, a1, a2, a3⟩ := h1.at e1
  exact ⟨b, o, x, a1, a2, a3, e2⟩

theorem oneC_cells {w : World} {g : Nat} {v : Value} {t : TypeId} (h : w.heap[g]? = some (.cells #[v] t (0, 0))) :
    ∀ j y, [v][j]? = some y → w.cell? ((⟨g, 0, none⟩ : Addr).add j) = some y := by
  intro j y hx
  rw [Addr.add_lit, Nat.zero_add, cell_of_blk h]
  match j with
  | 0 => simpa using hx
  | j + 1 => simp at hx
/-- What stands at each round of withNodes. -/
structure WNi (base : Nat) (O : Nat → Prop) (w : World) (B3 : Nat) (dv : Value) (sv : Value) (sd : List (List Aq)) (at0 : Nat) (g : List Aq → List Nd → List Nd) (R : List Nd) (j : Nat) (O1 : Nat → Prop) (v1 : Value) (xs1 : List Value) (ns1 : List Nd) (w' : World) : Prop where
  nv : NVx base O1 w' v1 xs1 ns1
  eq : sdL g at0 (sd.drop j) ns1 = R
  sds : SdS O1 w' sv sd
  off : Off O w w'
  oo : ∀ i, O1 i → O i ∨ w.heap.size ≤ i
  nb : ¬ O1 B3
  bx : Bx w' B3 #[dv] 31
  lt : at0 < ns1.length
  le : ns1.length ≤ 201
  tt : tot ns1 + 1 ≤ ns1.length
theorem NVx.form {base : Nat} {O : Nat → Prop} {w : World} {v : Value} {xs : List Value} {ns : List Nd} (h : NVx base O w v xs ns) (hn : 0 < ns.length) : ∃ gv cv, v = .slice (some ⟨gv, 0, none⟩) ns.length cv := by
  rcases h.own.2 with ⟨-, e⟩ | ⟨g, cap, cur, e, -⟩
  · omega
  · exact ⟨g, cap, e⟩

set_option maxRecDepth 20000 in
set_option maxHeartbeats 8000000 in
theorem withNodes_any (vd : Value) (D : List Int) (hd : goodD D = true) : ∀ (n base : Nat) (O : Nat → Prop) (v : Value) (xs : List Value) (ns : List Nd) (vl : Value) (l : List Aq) (w : World), St O w (DRow · vd D) → NVx base O w v xs ns → base ≤ w.heap.size → AqS O w vl l → SdOk D n l → ns.length ≤ 200 → tot ns ≤ ns.length →
    Calls Try.prog 25 #[vd, v, vl] w fun e w' => ∃ v' O' xs', e = .returned v' ∧ NVx base O' w' v' xs' (cmpP D.length n l ns) ∧ Off O w w' ∧ (∀ i, O' i → O i ∨ w.heap.size ≤ i) := by
  intro n
  induction n with
  | zero => intro base O v xs ns vl l w hD hN hb hl hs hns hto; exact absurd hs.sz (Nat.not_lt_zero _)
  | succ n ih =>
  intro base O v xs ns vl l w hD hN hb hl hs hns hto
  obtain ⟨i0, hi0, hz0, hz1, hz2⟩ := infoPartsT infoNd
  obtain ⟨i1, hi1, hy0, hy1, hy2⟩ := infoPartsT infoIntC
  have Hi := hide hi0
  have Hj := hide hi1
  have hD0 := hD.here
  obtain ⟨da, dc, rfl, hDr, hDl⟩ := id hD0
  obtain ⟨va, vc, rfl⟩ := own_form hN.own
  have HD := hide hD
  have Hd := hide hd
  have HS := hide hs
  have HL := hide hl
  have HN := hide hN
  have HOl := hide hN.ge
  have HOw := hide hN
  have Hto := hide hto
  have Hih := hide ih
  obtain ⟨la, lc, rfl, hlc⟩ := hl.form
  have hB0 : Below w.heap.size w (w.alloc (.cells #[.slice da D.length dc] 31)) := (Below.refl _ _).alloc (Nat.le_refl _) _
  have HX0 := hide (Bx.new w #[.slice da D.length dc] 31)
  have HC := hide (nodeOf_any O (.agg #[.slice da D.length dc]) D (.slice la l.length lc) l (w.alloc (.cells #[.slice da D.length dc] 31)) (hD0.below hB0) hd (fun k hk => by have := (hN.ge k hk).2; simp; omega) (hl.below hB0) hs.few hs.len hs.ok)
  have HPl := hide (ndR_path (m := D.length) hs.ok)
  have HSd := hide (ndR_sides (m := D.length) hs)
  have HFw := hide (ndR_few D.length l)
  obtain ⟨R, hR⟩ : ∃ R, R = cmpP D.length (n + 1) l ns := ⟨_, rfl⟩
  have HR : Hid (R = _) := hide (hR.trans (cmpP_ndR D.length n l ns))
  rw [← hR]
  obtain ⟨⟨rl, ph, sd⟩, hnd⟩ : ∃ T, T = ndR D.length l := ⟨_, rfl⟩
  rw [← hnd] at HC HPl HSd HR HFw
  dsimp only at HC HPl HSd HR HFw
  obtain ⟨at0, hat⟩ : ∃ a, a = ns.length := ⟨_, rfl⟩
  have Hat := hide hat
  rw [← hat] at HN hns HR ⊢
  clear hto hD hD0 hDr hd hs hl hN ih hi0 hi1 hR hnd hat
  go_enter Try.func25, Try.ntmps25
  go_upto_region 2 with fail
  obtain ⟨W1, hW1⟩ : ∃ W1, W1 = w.alloc (.cells #[.slice da D.length dc] 31) := ⟨_, rfl⟩
  have hs1 : W1.heap.size = w.heap.size + 1 := by rw [hW1]; simp
  rw [← hW1] at hB0 HX0 HC ⊢
  obtain ⟨B3, hB3⟩ : ∃ B3, B3 = w.heap.size := ⟨_, rfl⟩
  rw [← hB3] at HX0 ⊢
  have HB3 := hide hB3
  clear hW1 hB3
  have cx := HX0.out.c 0
  go_wp2_with fail
  refine Calls.mono HC.out ?_
  clear HC cx
  rintro e w2 ⟨pv, sv, rfl, hpo, hsd, hb2⟩
  obtain ⟨pa, pc, rfl⟩ := own_form hpo
  obtain ⟨sa, sc, rfl, hsc⟩ := hsd.form
  have hB2 : Below w.heap.size w w2 := hB0.trans (hb2.mono (by omega))
  have hs2 : W1.heap.size ≤ w2.heap.size := hb2.size
  have HX2 := hide (HX0.out.below hb2 (by have := HB3.out; omega))
  have HPv := hide (own_ivN hpo rfl (by have := HPl.out; omega))
  have Hpo := hide hpo
  have Hsd0 := hide hsd
  obtain ⟨nS, hnS⟩ : ∃ nS, nS = sd.length := ⟨_, rfl⟩
  obtain ⟨np, hnp⟩ : ∃ np, np = ph.length := ⟨_, rfl⟩
  have HnS := hide hnS
  have hnSb : nS ≤ 1048576 := by have := HFw.out; omega
  rw [← hnS] at hsc Hsd0 ⊢
  rw [← hnp] at HPv Hpo ⊢
  have Hnp := hide hnp
  clear hpo hsd hb2 hnS hnp HX0
  go_upto_region 3 with fail
  obtain ⟨B8, hB8⟩ : ∃ B8, B8 = w2.heap.size := ⟨_, rfl⟩
  obtain ⟨W3, hW3⟩ : ∃ W3, W3 = w2.alloc (.cells #[.int .i64 rl, .slice pa np pc, .slice none 0 0] 65) := ⟨_, rfl⟩
  have HX8 : Hid (Bx W3 B8 #[.int .i64 rl, .slice pa np pc, .slice none 0 0] 65) := hide (by rw [hW3, hB8]; exact Bx.new _ _ _)
  have hb23 : Below w2.heap.size w2 W3 := by rw [hW3]; exact (Below.refl _ _).alloc (Nat.le_refl _) _
  rw [← hW3, ← hB8]
  clear hW3 hB8
  have c0 := HX8.out.c 0
  have c1 := HX8.out.c 1
  have c2 := HX8.out.c 2
  have hs3 := hb23.size
  have hN3 := (HN.out.below hB2).below hb23
  have HN3 := hide hN3
  clear HN hN3
  go_wp2_with (at_builtin; refine wpList_append_sep rfl _ _ 28 rfl base 65 i0 (.agg #[.int .i64 0, .slice none 0 0, .slice none 0 0]) 3 56 Try.underlying28 Hi.out hz0 hz1 hz2 rfl (by decide) _ _ _ rfl (HN3.out.own.alloc _) ⟨W3.heap.size, 0, none⟩ 1 1 [.int .i64 rl, .slice pa np pc, .slice none 0 0] rfl rfl ?c1 ?c2 ?c3 ?c4 ?c5 ?_)
  case c1 => exact threeC_cells (heap_alloc_new W3 _)
  case c2 => intro u hu; simp only [List.mem_cons, List.not_mem_nil, or_false] at hu; rcases hu with rfl | rfl | rfl <;> rfl
  case c3 => unfold maxLen; have := Hat.out; omega
  case c4 => have := Hat.out; omega
  case c5 => simp; omega
  intro v4 w4 hown4 hgrow hap
  obtain ⟨W5, hW5⟩ : ∃ W5, W5 = W3.alloc (.cells #[.int .i64 rl, .slice pa np pc, .slice none 0 0] 65) := ⟨_, rfl⟩
  have hb35 : Below W3.heap.size W3 W5 := by rw [hW5]; exact (Below.refl _ _).alloc (Nat.le_refl _) _
  rw [← hW5] at hgrow hap
  have hs5 := hb35.size
  have hb25 : Below w2.heap.size w2 W5 := hb23.trans (hb35.mono hs3)
  have hN5 := HN3.out.below hb35
  have hpo5 : OwI base (.slice pa np pc) ph W5 := by
    have h1 := own_keep Hpo.out (w' := W5) (fun k _ hk => hb25.block k hk)
    rw [Hnp.out] at h1
    rw [Hnp.out]
    exact own_down h1 (by omega)
  have hpoO : ∀ g, (Value.slice pa np pc).ownBlock = some g → ¬ O g := fun k hk hO => by
    have h1 := own_ge Hpo.out k hk
    have h2 := (HOl.out k hO).2
    omega
  have hstp : St O W5 (OwI base (.slice pa np pc) ph) := own_stO hpo5 hpoO
  have hN6 := hN5.snoc (rl := rl) hown4 hgrow hap hstp hpoO (fun i b g hi e1 e2 e3 => by
    have h1 := own_ge Hpo.out g e3
    have h2 := ((HOw.out.pathOwn hi e1).lt g e2).2
    omega)
  have hof24 : Off O w2 w4 := (Off.of_below hb25).trans (Off.of_grown hgrow (fun k hk => hN5.row k hk)) (fun i hi => .inl hi)
  have hof04 : Off O w w4 := (Off.of_below hB2).trans hof24 (fun i hi => .inl hi)
  have hO4 : ∀ i, ObO O v4 i → O i ∨ w2.heap.size ≤ i := fun i hi => by
    rcases hi with hi | hi
    · exact .inl hi
    · rcases hap i hi with hi | hi
      · exact .inl (hN5.row i hi)
      · exact .inr (by omega)
  have hsw := hB2.size
  have hnb : ¬ ObO O v4 B3 := fun h => by
    have h3 := HB3.out
    rcases hO4 B3 h with h1 | h1
    · have := (HOl.out _ h1).2; omega
    · omega
  have HI : Hid (WNi base O w B3 (.slice da D.length dc) (.slice sa nS sc) sd at0 (cmpP D.length n) R 0 (ObO O v4) v4 (xs ++ [.int .i64 rl, .slice pa np pc, .slice none 0 0]) (ns ++ [⟨rl, ph, []⟩]) w4) :=
    hide ⟨hN6, by rw [List.drop_zero]; exact HR.out.symm, Hsd0.out.later hof24 hO4, hof04, fun i hi => by rcases hO4 i hi with h | h; exact .inl h; exact .inr (by omega), hnb, (hof24.block B3 HX2.out.lt (fun h => hnb (.inl h))).trans HX2.out, by have := Hat.out; simp; omega, by have := Hat.out; simp; omega, by have := Hto.out; rw [tot_app]; simp [tot] at this ⊢; omega⟩
  clear hW5 hb35 hb25 hN5 hstp hN6 hof24 hof04 hO4 hnb hown4 hgrow hap HN3 Hpo HPv Hsd0 HX2 HX8 c0 c1 c2 hb23 HR HL hlc
  go_wp2_with fail
  go_loopw [1, 26] (fun v1 i w' => ∃ (j : Nat) (O1 : Nat → Prop) (xs1 : List Value) (ns1 : List Nd), j ≤ nS ∧ i = .int .i64 j ∧ WNi base O w B3 (.slice da D.length dc) (.slice sa nS sc) sd at0 (cmpP D.length n) R j O1 v1 xs1 ns1 w') (fun _ i _ => nS - (intOf i).toNat)
  case atStart => exact ⟨0, _, _, _, by omega, rfl, HI.out⟩
  case round =>
    clear HI
    obtain ⟨j, O1, xs1, ns1, hj, rfl, hI⟩ := hrel
    obtain ⟨gv, cv, rfl⟩ := hI.nv.form (by have := hI.lt; omega)
    have HI := hide hI
    obtain ⟨n1, hn1⟩ : ∃ n1, n1 = ns1.length := ⟨_, rfl⟩
    have Hn1 := hide hn1
    have hn1l := hI.lt
    have hn1e := hI.le
    have cx := hI.bx.c 0
    rw [← hn1] at HI hn1l hn1e ⊢
    clear hI hn1
    by_cases hlt : j < nS
    · have hlt' : (j : Int) < (nS : Int) := by omega
      have hjl : j < sd.length := by rw [← HnS.out]; exact hlt
      obtain ⟨b, o, x, rfl, hbl, p0, hAx⟩ := HI.out.sds.at HnS.out hjl
      obtain ⟨xa, xc, rfl, hxc⟩ := hAx.form
      have HAx := hide hAx
      have hdr : sd.drop j = sd[j] :: sd.drop (j + 1) := List.drop_eq_getElem_cons hjl
      have HSj := hide (HSd.out _ (List.getElem_mem hjl))
      obtain ⟨sj, hsj⟩ : ∃ sj, sj = sd[j] := ⟨_, rfl⟩
      rw [← hsj] at HAx HSj hdr p0
      have Hdr := hide hdr
      obtain ⟨nx, hnx⟩ : ∃ nx, nx = sj.length := ⟨_, rfl⟩
      rw [← hnx] at HAx p0
      have Hnx := hide hnx
      clear hAx hdr hxc hjl hsj hnx
      by_cases hbig : 200 < n1
      · have hbig' : (200 : Int) < (n1 : Int) := by omega
        go_wp2_with fail
        go_ret
        have hR1 : ns1 = R := by
          have := HI.out.eq
          rw [Hdr.out, sdL, if_pos (by have := Hn1.out; omega)] at this
          exact this
        rw [← hR1]
        exact ⟨_, _, _, rfl, HI.out.nv, HI.out.off, HI.out.oo⟩
      · have hbig' : ¬ (200 : Int) < (n1 : Int) := by omega
        have hnv := HI.out.nv
        have ha1 : at0 < ns1.length := by have := Hn1.out; omega
        obtain ⟨pv, nv, x1, x2, x3, hst5, hno, hnO⟩ := hnv.el at0 ha1
        obtain ⟨na, nc, rfl⟩ := own_form hno
        have ho1 : wr.ownsRow base 65 3 (.slice (some ⟨gv, 0, none⟩) ns1.length cv) ns1.length xs1 := by have := hnv.own; rwa [Hn1.out] at this
        have hc2 : wr.cell? ⟨gv, at0 * 3 + 2, none⟩ = some (.slice na ns1[at0].next.length nc) := (ho1.cellAt _ (by omega)).trans x3
        have Hno := hide hno
        have Hx3 := hide x3
        have Ho1 := hide ho1
        obtain ⟨nn, hnn⟩ : ∃ nn, nn = ns1[at0].next.length := ⟨_, rfl⟩
        have Hnn := hide hnn
        rw [← hnn] at hc2 Hno Hx3
        have hati : (at0 : Int) < (n1 : Int) := by omega
        have hat0 : (0 : Int) ≤ (at0 : Int) := by omega
        clear hnv x1 x2 x3 hst5 hno hnO ho1 hnn
        go_upto_region 8 with fail
        have hnn : nn ≤ 201 := by
          have h1 := tot_mem (List.getElem_mem ha1)
          have h2 := HI.out.tt
          have h3 := HI.out.le
          have h4 := Hnn.out
          omega
        have hbw := HI.out.off.size
        go_wp2_with (at_builtin; refine wpList_append_sep rfl _ _ 22 rfl base 3 i1 (.int .i64 0) 1 8 Try.underlying22 Hj.out hy0 hy1 hy2 rfl (by decide) _ _ _ rfl (Hno.out.alloc _) ⟨wr.heap.size, 0, none⟩ 1 1 [.int .i64 (n1 : Int)] rfl rfl ?d1 ?d2 ?d3 ?d4 ?d5 ?_)
        case d2 => rfl
        case d3 => unfold maxLen; have := Hnn.out; omega
        case d4 => have := Hnn.out; omega
        case d5 => first | omega | (simp; omega)
        intro v5 w5 hown5 hgrow5 hap5
        obtain ⟨Wb, hWb⟩ : ∃ Wb, Wb = wr.alloc (.cells #[.int .i64 (n1 : Int)] 3) := ⟨_, rfl⟩
        have hbb : Below wr.heap.size wr Wb := by rw [hWb]; exact (Below.refl _ _).alloc (Nat.le_refl _) _
        rw [← hWb] at hgrow5 hap5
        have hsb := hbb.size
        have hNb := HI.out.nv.below hbb
        have hNb' : NVx base O1 Wb (.slice (some ⟨gv, 0, none⟩) ns1.length cv) xs1 ns1 := by rw [← Hn1.out]; exact hNb
        have hown5' : w5.ownsRow base 3 1 v5 (ns1[at0].next.length + 1) (rcells 1 iC (ns1[at0].next ++ [(ns1.length : Int)])) := by
          rw [rcells_app, ← Hn1.out, ← Hnn.out]; exact hown5
        obtain ⟨hNc, hoc⟩ := hNb'.nextAt ha1 Hx3.out hown5' hgrow5 hap5
        have hoA : w5.ownsRow base 65 3 (.slice (some ⟨gv, 0, none⟩) ns1.length cv) ns1.length xs1 := own_grown hNb'.own hgrow5 (fun k hk hv => own_apart Ho1.out Hno.out (by decide) hk hv)
        have hc5 : w5.cell? ⟨gv, at0 * 3 + 2, none⟩ = some (.slice na nn nc) := (hoA.cellAt _ (by omega)).trans Hx3.out
        have hf5 := hoA.frozenAt (at0 * 3 + 2)
        obtain ⟨a5, c5, e5⟩ := own_form hown5
        subst e5
        rw [← Hn1.out] at hNc
        have HNc := hide hNc
        have hOc : Off O1 wr (w5.setCell ⟨gv, at0 * 3 + 2, none⟩ (.slice a5 (nn + 1) c5)) := (Off.of_below hbb).trans hoc (fun i hi => .inl hi)
        have HOc := hide hOc
        have hO2 : ∀ i, ObO O1 (.slice a5 (nn + 1) c5) i → O1 i ∨ wr.heap.size ≤ i := fun i hi => by
          rcases hi with hi | hi
          · exact .inl hi
          · rcases hap5 i hi with h | h
            · exact .inl ((HI.out.nv.el at0 ha1).elim fun _ ⟨_, _, _, y3, _, _, y6⟩ => by
                rw [Hx3.out] at y3
                simp only [Option.some.injEq] at y3
                subst y3
                exact y6 i h)
            · exact .inr (by omega)
        have HO2 := hide hO2
        clear hWb hbb hNb hNb' hown5' hNc hoc hoA hgrow5 hap5 hown5 hOc hO2 hc2 cx
        go_upto_region 9 with fail
        obtain ⟨Wc, hWc⟩ : ∃ Wc, Wc = w5.setCell ⟨gv, at0 * 3 + 2, none⟩ (.slice a5 (nn + 1) c5) := ⟨_, rfl⟩
        rw [← hWc] at HNc HOc ⊢
        clear hWc hc5 hf5
        have hofw : Off O w Wc := HI.out.off.trans HOc.out HI.out.oo
        have hbx : Bx Wc B3 #[.slice da D.length dc] 31 := (HOc.out.block B3 HI.out.bx.lt HI.out.nb).trans HI.out.bx
        have cx := hbx.c 0
        have hsc' := hofw.size
        have hswr := HOc.out.size
        have hs2l : (setN at0 ns1).length = n1 := by rw [setN_length, Hn1.out]
        have hs2t : tot (setN at0 ns1) ≤ (setN at0 ns1).length := by
          have h1 := tot_setN at0 ns1
          have h2 := HI.out.tt
          rw [hs2l]; have := Hn1.out; omega
        have HC := hide (Hih.out base (ObO O1 (.slice a5 (nn + 1) c5)) (.slice (some ⟨gv, 0, none⟩) n1 cv) _ (setN at0 ns1) (.slice xa nx xc) sj Wc (HD.out.later hofw (fun i hi => by
          rcases HO2.out i hi with h | h
          · exact HI.out.oo i h
          · exact .inr (by omega))) HNc.out (by omega) (HAx.out.later HOc.out HO2.out) HSj.out (by omega) hs2t)
        have Hs2l := hide hs2l
        clear hofw hbx hs2t HNc HAx hs2l
        go_wp2_with fail
        refine Calls.mono HC.out ?_
        clear HC cx
        rintro e w6 ⟨v3, O3, xs3, rfl, hN3, hof3, hO3⟩
        have hofr : Off O1 wr w6 := HOc.out.trans hof3 HO2.out
        have hO31 : ∀ i, O3 i → O1 i ∨ wr.heap.size ≤ i := fun i hi => by
          rcases hO3 i hi with h | h
          · exact HO2.out i h
          · exact .inr (by omega)
        have hbl3 := HI.out.bx.lt
        obtain ⟨m1, m2, -⟩ := cmp_same D.length n sj (setN at0 ns1) HSj.out.lok HSj.out.sz (by have := Hs2l.out; omega)
        have hct := cmpP_tot D D.length n sj (setN at0 ns1) HSj.out
        have HI2 : Hid (WNi base O w B3 (.slice da D.length dc) (.slice (some ⟨b, o, none⟩) nS sc) sd at0 (cmpP D.length n) R (j + 1) O3 v3 xs3 (cmpP D.length n sj (setN at0 ns1)) w6) := hide
          { nv := hN3
            eq := by
              have := HI.out.eq
              rw [Hdr.out, sdL, if_neg (by have := Hn1.out; omega)] at this
              exact this
            sds := HI.out.sds.later hofr hO31
            off := HI.out.off.trans hofr HI.out.oo
            oo := fun i hi => by
              rcases hO31 i hi with h | h
              · exact HI.out.oo i h
              · exact .inr (by omega)
            nb := fun h => by
              rcases hO31 B3 h with h | h
              · exact HI.out.nb h
              · omega
            bx := (hofr.block B3 hbl3 HI.out.nb).trans HI.out.bx
            lt := by have := Hs2l.out; omega
            le := m2
            tt := by
              have h1 := tot_setN at0 ns1
              have h2 := HI.out.tt
              have h3 := Hs2l.out
              have h4 := Hn1.out
              omega }
        obtain ⟨a3, c3, e3⟩ := own_form hN3.own
        subst e3
        clear hN3 hof3 hO3 hofr hO31 m1 m2 hct
        go_wp2_with fail
        exact ⟨⟨j + 1, _, _, _, by omega, by go_num, HI2.out⟩, by simp [intOf]; omega⟩
    · have hjn : j = nS := by omega
      subst hjn
      have hR1 : Hid (ns1 = R) := hide (by
        have := HI.out.eq
        rw [HnS.out, List.drop_length, sdL] at this
        exact this)
      go_wp2_with fail
      go_ret
      rw [← hR1.out]
      exact ⟨_, _, _, rfl, HI.out.nv, HI.out.off, HI.out.oo⟩
end Go.Proofs.Ytmlpnmdckgppnaa.W

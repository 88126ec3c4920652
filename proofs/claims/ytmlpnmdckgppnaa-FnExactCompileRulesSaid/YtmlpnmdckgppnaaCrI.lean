/-
  What is asked once a constructor is seen at a path: (impl.Data).answered. Conditions: good data, at most 1000 asks of at most 1000 cells and path numbers. Written by wip/build/mk_cri.py.
-/
import Derived.Test.YtmlpnmdckgppnaaCrH
namespace Go.Proofs.Ytmlpnmdckgppnaa.W
open Go.ChangeShapes Go.WideShapes Go.ChangeAt Go.RowKit
set_option linter.unusedVariables false
set_option linter.unusedSimpArgs false

theorem belowDrew8' {B : Nat} {x y : World} (h : Below B x y) : Below B x y.drew := ⟨h.os, h.tape, h.output, h.size, h.block⟩
theorem setRowC_ne {w : World} {g k : Nat} (cs : Array Value) (h : k ≠ g) : (w.setRow g cs).heap[k]? = w.heap[k]? := Go.setRow_other w g k cs h
/-- An ask that the program can answer: its pattern is good, path and cells are few. -/
def Aok (D : List Int) (a : Ak) : Prop := (F.cons a.x a.k .nil).ok D ∧ a.p.length + a.k.flat.length ≤ 999
def QokD (D : List Int) (q : List Ak) : Prop := ∀ a ∈ q, Aok D a
theorem kidA_okD {D : List Int} : ∀ (f : F) (p : List Int) (i : Nat), f.ok D → p.length + f.flat.length ≤ 999 → QokD D (kidA p i f)
  | .nil, p, i, _, _ => by intro a ha; simp [kidA] at ha
  | .cons x k r, p, i, h, hl => by
    have hl' : p.length + r.flat.length ≤ 999 := by simp [F.flat] at hl; omega
    have ih := kidA_okD r p (i + 1) h.2.2.2 hl'
    unfold kidA
    split
    · exact ih
    · intro a ha
      rcases List.mem_cons.1 ha with e | ha
      · subst e
        exact ⟨⟨h.1, h.2.1, h.2.2.1, trivial⟩, by simp [F.flat] at hl ⊢; omega⟩
      · exact ih a ha
theorem ansF_okD {D : List Int} {p : List Int} {c : Int} {q q' : List Ak} (h : QokD D q) (e : ansF p c [] q = some q') : QokD D q' := by
  rcases ansF_fi (c := c) q [] 0 rfl with ⟨-, h2⟩ | ⟨i, hi, -, h2, h3⟩
  · rw [h2] at e
    simp only [List.nil_append, Option.some.injEq] at e
    subst e; exact h
  · rw [h3] at e
    split at e
    · simp only [List.nil_append, Option.some.injEq] at e
      subst e
      intro a ha
      rw [List.mem_append, List.mem_append] at ha
      have hq := h q[i] (List.getElem_mem hi)
      rcases ha with (ha | ha) | ha
      · exact kidA_okD _ _ _ hq.1.2.2.1 hq.2 a ha
      · exact h a (List.mem_of_mem_take ha)
      · exact h a (List.mem_of_mem_drop ha)
    · cases e
theorem kidA_few (p : List Int) : ∀ (f : F) (i : Nat), (kidA p i f).length ≤ f.flat.length
  | .nil, i => by simp [kidA]
  | .cons x k r, i => by
    have := kidA_few p r (i + 1)
    unfold kidA
    split
    · simp [F.flat]; omega
    · simp [F.flat]; omega
theorem qsz_len : ∀ q : List Ak, q.length ≤ qsz q
  | [] => by simp [qsz]
  | a :: q => by rw [qsz_cons]; have := qsz_len q; simp [Ak.sz]; omega

/-- What is kept whatever is written into some blocks does not lie in them. -/
theorem St.not_in {O : Nat → Prop} {w : World} {a : Ak} {pv : Value} {cb co n c : Nat} (h : St O w (AkE a pv (.slice (some ⟨cb, co, none⟩) n c))) : ¬ O cb := by
  intro hc
  have hoff : Off O w (w.setRow cb #[]) := ⟨rfl, rfl, rfl, by simp [World.setRow], fun k hk hn => setRowC_ne _ (fun e => hn (e ▸ hc))⟩
  obtain ⟨-, ⟨ad, c', e, hr, -⟩, -⟩ := h _ hoff
  simp only [Value.slice.injEq] at e
  obtain ⟨rfl, -, -⟩ := e
  rcases hr with hr | ⟨b', o', e', hr⟩
  · simp at hr
  · simp only [Option.some.injEq, Addr.mk.injEq, and_true] at e'
    obtain ⟨rfl, rfl⟩ := e'
    have := hr.2 0 (by simp) 0 (by decide)
    simp only [World.cell?, World.setRow, Array.getElem?_modify, if_true] at this
    cases hh : w.heap[cb]? with
    | none => rw [hh] at this; simp at this
    | some ob =>
      rw [hh] at this
      cases ob <;> simp at this
/-- Some cells of a row of asks, as what is put behind others. -/
theorem RowX.pt {O : Nat → Prop} {w : World} {ad : Option Addr} {c n : Nat} {xs : List Value} (h : RowX O w (.slice ad n c) n 2 xs) (h1 : ∀ x ∈ xs, x.oneCell' = true) (m : Nat) (hm : m ≤ n) (c' : Nat) (h0 : 0 < n) : PtA w (.slice ad m c') m (xs.take (m * 2)) := by
  obtain ⟨ad', c2, e, h2, h3, h4⟩ := h
  simp only [Value.slice.injEq] at e
  obtain ⟨rfl, -, rfl⟩ := e
  rcases h4 with h4 | ⟨b, o, rfl, h6, h7, h8⟩
  · omega
  · refine .inr ⟨⟨b, o, none⟩, c', rfl, by simp [h3]; omega, fun j x hx => ?_, fun x hx => h1 x (List.mem_of_mem_take hx), fun _ => ⟨h6, o, rfl⟩⟩
    have hj : j < m * 2 := by have := (List.getElem?_eq_some_iff.1 hx).1; simp at this; omega
    rw [List.getElem?_take_of_lt hj] at hx
    rw [Addr.add_lit]; exact h8 j x hx
theorem RowX.ptd {O : Nat → Prop} {w : World} {b o c n : Nat} {xs : List Value} (h : RowX O w (.slice (some ⟨b, o, none⟩) n c) n 2 xs) (h1 : ∀ x ∈ xs, x.oneCell' = true) (i : Nat) (hi : i ≤ n) (c' o' : Nat) (h0 : 0 < n) (ho : i < n → o' = o + i * 2) : PtA w (.slice (some ⟨b, o', none⟩) (n - i) c') (n - i) (xs.drop (i * 2)) := by
  obtain ⟨ad', c2, e, h2, h3, h4⟩ := h
  simp only [Value.slice.injEq] at e
  obtain ⟨rfl, -, rfl⟩ := e
  rcases h4 with h4 | ⟨b', o2, e5, h6, h7, h8⟩
  · omega
  · simp only [Option.some.injEq, Addr.mk.injEq, and_true] at e5
    obtain ⟨rfl, rfl⟩ := e5
    refine .inr ⟨⟨b, o', none⟩, c', rfl, by simp [h3, Nat.sub_mul], fun j x hx => ?_, fun x hx => h1 x (List.mem_of_mem_drop hx), fun _ => ⟨h6, o', rfl⟩⟩
    have hj : i * 2 + j < xs.length := by have := (List.getElem?_eq_some_iff.1 hx).1; simp at this; omega
    rw [List.getElem?_drop] at hx
    rw [Addr.add_lit, ho (by omega), Nat.add_assoc]; exact h8 _ x hx

theorem own_pta {w : World} {base n : Nat} {v : Value} {xs : List Value} (h : w.ownsRow base 92 2 v n xs) (h1 : ∀ x ∈ xs, x.oneCell' = true) : PtA w v n xs := by
  have hl := h.1
  rcases h.2 with ⟨e1, e2⟩ | ⟨g, cap, cur, e1, hg, hh, h2, h3, h4, h5⟩
  · subst e2
    exact .inl ⟨e1, rfl, List.eq_nil_of_length_eq_zero (by omega)⟩
  · refine .inr ⟨⟨g, 0, none⟩, cap, e1, hl, fun j x hx => ?_, h1, fun _ => ⟨(Array.getElem?_eq_some_iff.1 hh).1, 0, rfl⟩⟩
    have hj : j < n * 2 := by have := (List.getElem?_eq_some_iff.1 hx).1; omega
    rw [Addr.add_lit, cell_of_blk hh, Nat.zero_add]
    rw [← h5, List.getElem?_take_of_lt hj] at hx
    simpa using hx
theorem own_ge {w : World} {base n : Nat} {T : TypeId} {z : Nat} {v : Value} {xs : List Value} (h : w.ownsRow base T z v n xs) : ∀ k, v.ownBlock = some k → base ≤ k := by
  intro k hk
  rcases h.2 with ⟨h1, h2⟩ | ⟨g, cap, cur, h1, hg, hh⟩
  · rw [h1] at hk; cases hk
  · rw [h1] at hk
    cases hk
    exact hg
/-- What is told: what is asked then, or that it cannot be had. -/
def AnsP (O : Nat → Prop) (w' : World) (e : Ending) : Option (List Ak) → Prop
  | some q' => ∃ v', e = .returned (.tuple #[v', .bool true]) ∧ AkS O w' v' q'
  | none => e = .returned (.tuple #[.slice none 0 0, .bool false])

set_option maxRecDepth 20000 in
set_option maxHeartbeats 8000000 in
theorem answered_any (O : Nat → Prop) (vd : Value) (D : List Int) (va : Value) (q : List Ak) (ta : Option Addr) (tc : Nat) (t : List Int) (c : Int) (w : World) (hD : DRow w vd D) (hd : goodD D = true) (hO : ∀ k, O k → k < w.heap.size)
    (hq : AkS O w va q) (hL : qsz q ≤ 1000) (hok : QokD D q) (ht : IRow w ta t) :
    Calls Try.prog 51 #[vd, va, .slice ta t.length tc, .int .i64 c] w fun e w' => Below w.heap.size w w' ∧ AnsP O w' e (ansF t c [] q) := by
  have hqn := qsz_len q
  obtain ⟨da, dc, rfl, hDr, hDl⟩ := id hD
  obtain ⟨qa, qc, rfl, hqc⟩ := hq.form
  have HQ := hide hq
  have HD := hide hD
  have Hd := hide hd
  have HO := hide hO
  have HOk := hide hok
  have HT := hide ht
  obtain ⟨W2, hW2⟩ : ∃ W2, W2 = (w.alloc (.cells #[.slice da D.length dc] 31)).alloc (.cells #[.slice ta t.length tc] 22) := ⟨_, rfl⟩
  have hB2 : Below w.heap.size w W2 := by rw [hW2]; exact ((Below.refl _ _).alloc (Nat.le_refl _) _).alloc (by simp) _
  have HX1 : Hid (Bx W2 w.heap.size #[.slice da D.length dc] 31) := hide (by rw [hW2]; exact (Bx.new w _ _).alloc _)
  have HX2 : Hid (Bx W2 (w.heap.size + 1) #[.slice ta t.length tc] 22) := hide (by rw [hW2]; have := Bx.new (w.alloc (.cells #[.slice da D.length dc] 31)) #[.slice ta t.length tc] 22; simpa using this)
  have HIx := hide (indexAsk_any (.slice qa q.length qc) q ta tc (w.heap.size + 1) t W2 (hq.below hB2).akv (by omega) (RRow.below ht hB2) (by rw [hW2]; simp) (by have := HX2.out.c 0; simpa using this))
  have HW2 := hide hW2
  obtain ⟨R, hR⟩ : ∃ R, R = ansF t c [] q := ⟨_, rfl⟩
  rw [← hR]
  have HR := hide hR
  obtain ⟨nq, hnq⟩ : ∃ nq, nq = q.length := ⟨_, rfl⟩
  have Hnq := hide hnq
  rw [← hnq] at HIx HQ hqc hqn ⊢
  obtain ⟨nt, hnt⟩ : ∃ nt, nt = t.length := ⟨_, rfl⟩
  rw [← hnt] at HW2 HX2 ⊢
  clear hD hDr hd hq hO hok ht hW2 hR hnq hnt
  go_enter Try.func51, Try.ntmps51
  go_upto_region 1 with fail
  rw [← HW2.out]
  obtain ⟨B6, hB6⟩ : ∃ B6, B6 = w.heap.size + 1 := ⟨_, rfl⟩
  obtain ⟨B4, hB4⟩ : ∃ B4, B4 = w.heap.size := ⟨_, rfl⟩
  rw [← hB6] at HX2 HIx ⊢
  rw [← hB4] at HX1 ⊢
  clear HW2 hB6 hB4
  go_wp2_with fail
  refine Calls.mono HIx.out ?_
  rintro e w3 ⟨rfl, hb⟩
  have hB3 := hB2.trans (hb.mono hB2.size)
  have HX13 := hide (HX1.out.below hb HX1.out.lt)
  clear hb HIx HX1 HX2
  rcases ansF_fi (p := t) (c := c) q [] 0 rfl with ⟨h1, h2⟩ | ⟨i, hi, h1, h2, h3⟩
  · have HRe : Hid (R = some q) := hide (by rw [HR.out, h2]; rfl)
    rw [h1]
    clear h1 h2
    go_wp2_with fail
    refine bodyPost_ret (v := .tuple #[.slice qa nq qc, .bool true]) (by simp [results, Try.results51, go_sem]) rfl ⟨hB3, ?_⟩
    rw [HRe.out]
    exact ⟨_, rfl, HQ.out.below hB3⟩
  · rw [h1]
    have hin : i < nq := by rw [Hnq.out]; exact hi
    have hi0 : ¬ ((0 + i : Nat) : Int) < 0 := by omega
    obtain ⟨I, hI⟩ : ∃ I : Int, I = ((0 + i : Nat) : Int) := ⟨_, rfl⟩
    have hIi : ((0 + i : Nat) : Int) = (i : Int) := by omega
    rw [hIi] at hi0 ⊢
    have hin' : (i : Int) < (nq : Int) := by omega
    have hi0' : (0 : Int) ≤ (i : Int) := by omega
    have HPt := hide h2
    have HRr : Hid (R = if q[i].x.con = c then some (kidA q[i].p 0 q[i].k ++ q.take i ++ q.drop (i + 1)) else none) := hide (by rw [HR.out, h3]; rfl)
    have hQ3 := HQ.out.below hB3
    obtain ⟨xs, hRow, hAv⟩ := hQ3
    have hRow' : RowX O w3 (.slice qa nq qc) nq 2 xs := by rw [Hnq.out] at hRow ⊢; exact hRow
    obtain ⟨pv, cv, e1, e2, hE⟩ := hAv.2 i hi
    obtain ⟨b, o, rfl, hbl, p0⟩ := hRow'.at e1
    obtain ⟨b', o', e', -, p1⟩ := hRow'.at e2
    simp only [Option.some.injEq, Addr.mk.injEq, and_true] at e'
    obtain ⟨rfl, rfl⟩ := e'
    rw [← Nat.add_assoc] at p1
    have hEh := hE.here
    obtain ⟨⟨pa, pc, rfl, hpr, hpl⟩, ⟨ca, cc, rfl, hcr, hcc⟩, hcap⟩ := hEh
    obtain ⟨ad9, n9, c9, e9, hcap1, hcap2⟩ := hcap
    simp only [Value.slice.injEq] at e9
    obtain ⟨rfl, rfl, rfl⟩ := e9
    obtain ⟨a, ha⟩ : ∃ a, a = q[i] := ⟨_, rfl⟩
    have hak := HOk.out a (by rw [ha]; exact List.getElem_mem hi)
    rw [← ha] at p0 p1 hpr hpl hcr hcc hE hcap1 hcap2
    have HRa : Hid (R = if a.x.con = c then some (kidA a.p 0 a.k ++ q.take i ++ q.drop (i + 1)) else none) := hide (by rw [HRr.out, ha])
    have HRow := hide hRow'
    have HAv := hide hAv
    have Ha := hide ha
    have HE := hide hE
    -- the cells
    obtain ⟨cb, co, rfl, hcb, hcx⟩ : ∃ cb co, ca = some ⟨cb, co, none⟩ ∧ cb < w3.heap.size ∧ RAt 2 Pt.c w3 cb co (a.x :: a.k.flat) := by
      rcases hcr with h | ⟨cb, co, h, hh⟩
      · simp at h
      · exact ⟨cb, co, h, hh.1, hh⟩
    have q0 := hcx.2 0 (by simp) 1 (by decide)
    simp only [Nat.zero_mul, Nat.add_zero, List.getElem_cons_zero, Pt.c] at q0
    have hcO : ¬ O cb := hE.not_in
    have hccn : (a.x :: a.k.flat).length = a.k.flat.length + 1 := by simp
    have cx := HX13.out.c 0
    have hcn0 : (0 : Int) < ((a.x :: a.k.flat).length : Int) := by rw [hccn]; omega
    have HCx := hide hcx
    have HPr := hide hpr
    have Hak := hide hak
    have hql := hqn
    obtain ⟨nc, hnc⟩ : ∃ nc, nc = (a.x :: a.k.flat).length := ⟨_, rfl⟩
    have Hnc := hide hnc
    rw [← hnc] at p1 hcn0 hcc
    obtain ⟨np, hnp⟩ : ∃ np, np = a.p.length := ⟨_, rfl⟩
    have Hnp := hide hnp
    rw [← hnp] at p0 hcap1 hcap2
    have hccn' : (nc : Int) ≤ (cc : Int) := by omega
    clear e1 e2 h2 h3 h1 hRow hRow' hAv hE ha hak hcx hpr hcr hnc hnp hccn hI hIi HRr
    by_cases hcon : a.x.con = c
    · have HRe : Hid (R = some (kidA a.p 0 a.k ++ q.take i ++ q.drop (i + 1))) := hide (by rw [HRa.out, if_pos hcon])
      rw [hcon] at q0
      clear hcon
      go_upto_region 6 with fail
      clear q0
      have hiq : (i : Int) ≤ (qc : Int) := by omega
      obtain ⟨J, hJ⟩ : ∃ J, J = i + 1 := ⟨_, rfl⟩
      have hw1 : IntKind.i64.wrap ((i : Int) + 1) = (J : Int) := by rw [Go.IntWalk.i64_in _ ⟨by omega, by omega⟩]; omega
      have hJ0 : (0 : Int) ≤ (J : Int) := by omega
      have hJn : (J : Int) ≤ (nq : Int) := by omega
      have HJ := hide hJ
      have HRe2 : Hid (R = some (kidA a.p 0 a.k ++ q.take i ++ q.drop J)) := hide (by rw [hJ]; exact HRe.out)
      have hJq : J ≤ qc := by omega
      clear hJ
      have k0 : Bx w3.drew B4 #[.slice da D.length dc] 31 := HX13.out
      have l0 := HX13.out.lt
      have hB : Below w.heap.size w w3.drew := belowDrew8' hB3
      have hB' : Below w3.heap.size w3 w3.drew := belowDrew8' (Below.refl _ _)
      have c0 : w3.drew.cell? ⟨b, o + i * 2, none⟩ = some (.slice pa np pc) := p0
      have c1 : w3.drew.cell? ⟨b, o + i * 2 + 1, none⟩ = some (.slice (some ⟨cb, co, none⟩) nc cc) := p1
      have HAs := hide (asksOfParts_any (.agg #[.slice da D.length dc]) D pa pc a.p np cb co nc cc a.x a.k w3.drew (HD.out.below hB) Hd.out Hak.out.1 (RRow.below HPr.out hB') Hnp.out (by have := Hak.out.2; omega) (by rw [← Hnp.out]; exact hcap1) (fun h => ⟨List.eq_nil_of_length_eq_zero (by have := hcap2 h; have := Hnp.out; omega), (hcap2 h).2⟩) (HCx.out.below hB') (by rw [Hnc.out]; simp) (by have := Hak.out.2; have := Hnc.out; simp at this; omega) (by omega))
      clear p0 p1 cx HCx HPr
      by_cases hcp : qc = J
      · subst hcp
        refine wp_region_noPanic ?_
        refine wp_region_held_drew (S := fun w' => Bx w' B4 #[.slice da D.length dc] 31 ∧ w'.cell? ⟨b, o + i * 2, none⟩ = some (.slice pa np pc) ∧ w'.cell? ⟨b, o + i * 2 + 1, none⟩ = some (.slice (some ⟨cb, co, none⟩) nc cc)) (by kernel_rfl) ⟨k0, c0, c1⟩ (fun hHeld => ?_)
        refine wpAnyH_take (i := 0) (oi := _) (v := ?_) rfl (by kernel_rfl) (by kernel_rfl) (by kernel_rfl) (fun _ _ _ h => h) (Or.inl ⟨by rfl, ?_⟩) (by assumption) ?_
        rotate_left 1
        · (intro w hSw; (try dsimp only at hSw); replace hSw := hSw.1.c 0; (first | (go_simp; done) | (go_simp; with_reducible rfl)))
        try simp only [Act.put, List.getElem_toArray, List.getElem_cons_zero, List.getElem_cons_succ, List.setIfInBounds_toArray, List.set_cons_zero, List.set_cons_succ]
        refine wpAnyH_take (i := 1) (oi := _) (v := ?_) rfl (by kernel_rfl) (by kernel_rfl) (by kernel_rfl) (fun _ _ _ h => h) (Or.inl ⟨by rfl, ?_⟩) (by assumption) ?_
        rotate_left 1
        · (intro w hSw; clear hSw; (first | (go_simp; done) | (go_simp; with_reducible rfl)))
        try simp only [Act.put, List.getElem_toArray, List.getElem_cons_zero, List.getElem_cons_succ, List.setIfInBounds_toArray, List.set_cons_zero, List.set_cons_succ]
        refine wpAnyH_take (i := 2) (oi := _) (v := ?_) rfl (by kernel_rfl) (by kernel_rfl) (by kernel_rfl) (fun _ _ _ h => h) (Or.inl ⟨by rfl, ?_⟩) (by assumption) ?_
        rotate_left 1
        · (intro w hSw; clear hSw; (first | (go_simp; done) | (go_simp; with_reducible rfl)))
        try simp only [Act.put, List.getElem_toArray, List.getElem_cons_zero, List.getElem_cons_succ, List.setIfInBounds_toArray, List.set_cons_zero, List.set_cons_succ]
        refine wpAnyH_take (i := 3) (oi := _) (v := ?_) rfl (by kernel_rfl) (by kernel_rfl) (by kernel_rfl) (fun _ _ _ h => h) (Or.inl ⟨by rfl, ?_⟩) (by assumption) ?_
        rotate_left 1
        · (intro w hSw; clear hSw; (first | (go_simp; done) | (go_simp; with_reducible rfl)))
        try simp only [Act.put, List.getElem_toArray, List.getElem_cons_zero, List.getElem_cons_succ, List.setIfInBounds_toArray, List.set_cons_zero, List.set_cons_succ]
        refine wpAnyH_take (i := 4) (oi := _) (v := ?_) rfl (by kernel_rfl) (by kernel_rfl) (by kernel_rfl) (fun _ _ _ h => h) (Or.inl ⟨by rfl, ?_⟩) (by assumption) ?_
        rotate_left 1
        · (intro w hSw; (try dsimp only at hSw); replace hSw := hSw.2; (first | (go_simp; done) | (go_simp; with_reducible rfl)))
        try simp only [Act.put, List.getElem_toArray, List.getElem_cons_zero, List.getElem_cons_succ, List.setIfInBounds_toArray, List.set_cons_zero, List.set_cons_succ]
        refine wpAnyH_take (i := 6) (oi := _) (v := ?_) rfl (by kernel_rfl) (by kernel_rfl) (by kernel_rfl) (fun _ _ _ h => h) (Or.inl ⟨by rfl, ?_⟩) (by assumption) ?_
        rotate_left 1
        · (intro w hSw; clear hSw; (first | (go_simp; done) | (go_simp; with_reducible rfl)))
        try simp only [Act.put, List.getElem_toArray, List.getElem_cons_zero, List.getElem_cons_succ, List.setIfInBounds_toArray, List.set_cons_zero, List.set_cons_succ]
        refine wpAnyH_take (i := 7) (oi := _) (v := ?_) rfl (by kernel_rfl) (by kernel_rfl) (by kernel_rfl) (fun _ _ _ h => h) (Or.inl ⟨by rfl, ?_⟩) (by assumption) ?_
        rotate_left 1
        · (intro w hSw; clear hSw; (first | (go_simp; done) | (go_simp; with_reducible rfl)))
        try simp only [Act.put, List.getElem_toArray, List.getElem_cons_zero, List.getElem_cons_succ, List.setIfInBounds_toArray, List.set_cons_zero, List.set_cons_succ]
        refine wpAnyH_take (i := 8) (oi := _) (v := ?_) rfl (by kernel_rfl) (by kernel_rfl) (by kernel_rfl) (fun _ _ _ h => h) (Or.inl ⟨by rfl, ?_⟩) (by assumption) ?_
        rotate_left 1
        · (intro w hSw; clear hSw; (first | (go_simp; done) | (go_simp; with_reducible rfl)))
        try simp only [Act.put, List.getElem_toArray, List.getElem_cons_zero, List.getElem_cons_succ, List.setIfInBounds_toArray, List.set_cons_zero, List.set_cons_succ]
        refine wpAnyH_take (i := 9) (oi := _) (v := ?_) rfl (by kernel_rfl) (by kernel_rfl) (by kernel_rfl) (fun _ _ _ h => h) (Or.inl ⟨by rfl, ?_⟩) (by assumption) ?_
        rotate_left 1
        · (intro w hSw; clear hSw; (first | (go_simp; done) | (go_simp; with_reducible rfl)))
        try simp only [Act.put, List.getElem_toArray, List.getElem_cons_zero, List.getElem_cons_succ, List.setIfInBounds_toArray, List.set_cons_zero, List.set_cons_succ]
        refine wpAnyH_take (i := 10) (oi := _) (v := ?_) rfl (by kernel_rfl) (by kernel_rfl) (by kernel_rfl) (fun _ _ _ h => h) (Or.inl ⟨by rfl, ?_⟩) (by assumption) ?_
        rotate_left 1
        · (intro w hSw; clear hSw; (first | (go_simp; done) | (go_simp; with_reducible rfl)))
        try simp only [Act.put, List.getElem_toArray, List.getElem_cons_zero, List.getElem_cons_succ, List.setIfInBounds_toArray, List.set_cons_zero, List.set_cons_succ]
        refine wpAnyH_take (i := 11) (oi := _) (v := ?_) rfl (by kernel_rfl) (by kernel_rfl) (by kernel_rfl) (fun _ _ _ h => h) (Or.inl ⟨by rfl, ?_⟩) (by assumption) ?_
        rotate_left 1
        · (intro w hSw; clear hSw; (first | (go_simp; done) | (go_simp; with_reducible rfl)))
        try simp only [Act.put, List.getElem_toArray, List.getElem_cons_zero, List.getElem_cons_succ, List.setIfInBounds_toArray, List.set_cons_zero, List.set_cons_succ]
        refine wpAnyH_take (i := 12) (oi := _) (v := ?_) rfl (by kernel_rfl) (by kernel_rfl) (by kernel_rfl) (fun _ _ _ h => h) (Or.inl ⟨by rfl, ?_⟩) (by assumption) ?_
        rotate_left 1
        · (intro w hSw; clear hSw; (first | (go_simp; done) | (go_simp; with_reducible rfl)))
        try simp only [Act.put, List.getElem_toArray, List.getElem_cons_zero, List.getElem_cons_succ, List.setIfInBounds_toArray, List.set_cons_zero, List.set_cons_succ]
        refine wpAnyH_ready (rs := [5]) (by kernel_rfl) (by simp) ?_
        refine AllReadyH.cons (o := _) rfl (fun K hK => ?_) AllReadyH.nil
        go_simp
        (with_reducible refine Calls.mono HAs.out ?_)
        rintro r w5 ⟨v5, xs5, rfl, hO5, hA5, hbc⟩
        have hbw : Below w3.heap.size w3 w5 := hB'.trans hbc
        replace k0 := k0.below hbc l0
        replace c0 := (hbc.cell (p := ⟨b, o + i * 2, none⟩) hbl).trans c0
        replace c1 := (hbc.cell (p := ⟨b, o + i * 2 + 1, none⟩) hbl).trans c1
        have HO5 := hide hO5
        have HA5 := hide hA5
        obtain ⟨a5, c5, e5⟩ := own_form hO5
        obtain ⟨n5, hn5⟩ : ∃ n5, n5 = (kidA a.p 0 a.k).length := ⟨_, rfl⟩
        rw [← hn5] at e5 HO5
        have Hn5 := hide hn5
        subst e5
        clear hO5 hA5 hbc HAs hn5
        (try go_wp2_with fail)
        refine hK.out _ _ ⟨k0, c0, c1⟩ (fun hHeld => ?_)
        clear hK K
        try simp only [Act.put, List.getElem_toArray, List.getElem_cons_zero, List.getElem_cons_succ, List.setIfInBounds_toArray, List.set_cons_zero, List.set_cons_succ]
        refine wpAnyH_ready (rs := [13]) (by kernel_rfl) (by simp) ?_
        refine AllReadyH.cons (o := _) rfl (fun K hK => ?_) AllReadyH.nil
        go_simp
        have hbA : Below w5.heap.size w5 (w5.alloc (.cells #[.slice a5 n5 c5, .slice (some ⟨b, o, none⟩) i qc, .slice (some ⟨b, o, none⟩) 0 0] 82)) := (Below.refl _ _).alloc (Nat.le_refl _) _
        have HXn : Hid (Bx (w5.alloc (.cells #[.slice a5 n5 c5, .slice (some ⟨b, o, none⟩) i qc, .slice (some ⟨b, o, none⟩) 0 0] 82)) w5.heap.size #[.slice a5 n5 c5, .slice (some ⟨b, o, none⟩) i qc, .slice (some ⟨b, o, none⟩) 0 0] 82) := hide (Bx.new _ _ _)
        obtain ⟨W6, hW6⟩ : ∃ W6, W6 = w5.alloc (.cells #[.slice a5 n5 c5, .slice (some ⟨b, o, none⟩) i qc, .slice (some ⟨b, o, none⟩) 0 0] 82) := ⟨_, rfl⟩
        rw [← hW6] at hbA HXn ⊢
        clear hW6
        have hb5 : b < w5.heap.size := Nat.lt_of_lt_of_le hbl hbw.size
        replace k0 := k0.below hbA k0.lt
        replace c0 := (hbA.cell (p := ⟨b, o + i * 2, none⟩) hb5).trans c0
        replace c1 := (hbA.cell (p := ⟨b, o + i * 2 + 1, none⟩) hb5).trans c1
        have hbW : Below w3.heap.size w3 W6 := hbw.trans (hbA.mono hbw.size)
        have hxl : xs.length = nq * 2 := by have := HAv.out.1; rw [← Hnq.out] at this; exact this
        have hkf : n5 ≤ 999 := by have := kidA_few a.p a.k 0; have := Hak.out.2; have := Hn5.out; omega
        have HCn : Hid (Calls Try.prog 55 #[.slice (some ⟨w5.heap.size, 0, none⟩) 3 3] W6 fun e w' => ∃ v, e = .returned v ∧ w'.ownsRow W6.heap.size 92 2 v (n5 + (i + (0 + 0))) (xs5 ++ (xs.take (i * 2) ++ ([] ++ []))) ∧ Below W6.heap.size W6 w') := hide (concatA_any w5.heap.size [(.slice a5 n5 c5, n5, xs5), (.slice (some ⟨b, o, none⟩) i qc, i, xs.take (i * 2)), (.slice (some ⟨b, o, none⟩) 0 0, 0, [])] W6 (by simp) HXn.out.lt (fun j hj => by
            rw [HXn.out.c]
            match j, hj with
            | 0, _ => rfl
            | 1, _ => rfl
            | 2, _ => rfl) (fun j hj => by
            match j, hj with
            | 0, _ => exact (own_pta HO5.out HA5.out.one).below hbA
            | 1, _ => exact (HRow.out.pt HAv.out.one i (by omega) qc (by omega)).below hbW
            | 2, _ => exact (.inr ⟨⟨b, o, none⟩, 0, rfl, rfl, fun j x hx => by simp at hx, fun x hx => by simp at hx, fun h => absurd rfl h⟩)) (by show n5 + (i + (0 + 0)) ≤ 1048576; omega))
        refine hK.out _ _ ⟨k0, c0, c1⟩ (fun hHeld => ?_)
        clear hK K
        try simp only [Act.put, List.getElem_toArray, List.getElem_cons_zero, List.getElem_cons_succ, List.setIfInBounds_toArray, List.set_cons_zero, List.set_cons_succ]
        refine wpAnyH_ready (rs := [14]) (by kernel_rfl) (by simp) ?_
        refine AllReadyH.cons (o := _) rfl (fun K hK => ?_) AllReadyH.nil
        go_simp
        (with_reducible refine Calls.mono HCn.out ?_)
        rintro r w8 ⟨v8, rfl, hO8, hbc⟩
        have hbf : Below w3.heap.size w3 w8 := hbW.trans (hbc.mono hbW.size)
        replace k0 := k0.below hbc k0.lt
        replace c0 := (hbc.cell (p := ⟨b, o + i * 2, none⟩) (Nat.lt_of_lt_of_le hb5 hbA.size)).trans c0
        replace c1 := (hbc.cell (p := ⟨b, o + i * 2 + 1, none⟩) (Nat.lt_of_lt_of_le hb5 hbA.size)).trans c1
        have HRs : Hid (AkS O w8 v8 (kidA a.p 0 a.k ++ q.take i ++ q.drop qc)) := hide (by
          have A1 : AVs O w8 xs5 (kidA a.p 0 a.k) := (HA5.out.mono (fun k hk => .inr ⟨Nat.lt_of_lt_of_le (HO.out k hk) hB.size, fun e => hcO (e ▸ hk)⟩)).later (Off.of_below (hbA.trans (hbc.mono hbA.size))) (fun k hk => .inl hk)
          have A2 : AVs O w8 (xs.take (i * 2)) (q.take i) := by have := (HAv.out.cut 0 i (by rw [← Hnq.out]; omega)).later (Off.of_below hbf) (fun k hk => .inl hk); simpa using this
          have A3 : AVs O w8 (xs.drop (qc * 2)) (q.drop qc) := by
            have := (HAv.out.cut qc (nq - qc) (by rw [← Hnq.out]; omega)).later (Off.of_below hbf) (fun k hk => .inl hk)
            rwa [List.take_of_length_le (by rw [List.length_drop, hxl]; omega), List.take_of_length_le (by rw [List.length_drop, ← Hnq.out]; omega)] at this
          have hl8 : (kidA a.p 0 a.k ++ q.take i ++ q.drop qc).length = n5 + (i + (0 + 0)) := by simp only [List.length_append, List.length_take, List.length_drop]; have := Hn5.out; have := Hnq.out; omega
          refine ⟨xs5 ++ xs.take (i * 2) ++ xs.drop (qc * 2), ?_, (A1.app A2).app A3⟩
          rw [hl8, show xs5 ++ xs.take (i * 2) ++ xs.drop (qc * 2) = xs5 ++ (xs.take (i * 2) ++ ([] ++ [])) by rw [List.append_nil, List.append_assoc, List.drop_eq_nil_of_le (by omega)]]
          refine RowX.ofOwn hO8 (fun k hk hc => ?_)
          have h1 := own_ge hO8 k hk
          have h2 := HO.out k hc
          have h3 := hbA.size
          have h4 := hbw.size
          have h5 := hB3.size
          omega)
        obtain ⟨a8, c8, e8⟩ := own_form hO8
        obtain ⟨n8, hn8⟩ : ∃ n8, n8 = n5 + (i + (0 + 0)) := ⟨_, rfl⟩
        rw [← hn8] at e8
        subst e8
        have HBf := hide (hB3.trans (hbf.mono hB3.size))
        clear hO8 hbc HCn hn8
        (try go_wp2_with fail)
        refine hK.out _ _ ⟨k0, c0, c1⟩ (fun hHeld => ?_)
        clear hK K
        try simp only [Act.put, List.getElem_toArray, List.getElem_cons_zero, List.getElem_cons_succ, List.setIfInBounds_toArray, List.set_cons_zero, List.set_cons_succ]
        refine wpAnyH_take (i := 15) (oi := _) (v := ?_) rfl (by kernel_rfl) (by kernel_rfl) (by kernel_rfl) (fun _ _ _ h => h) (Or.inl ⟨by rfl, ?_⟩) (by assumption) ?_
        rotate_left 1
        · (intro w hSw; clear hSw; (first | (go_simp; done) | (go_simp; with_reducible rfl)))
        try simp only [Act.put, List.getElem_toArray, List.getElem_cons_zero, List.getElem_cons_succ, List.setIfInBounds_toArray, List.set_cons_zero, List.set_cons_succ]
        refine wpAnyH_take (i := 16) (oi := _) (v := ?_) rfl (by kernel_rfl) (by kernel_rfl) (by kernel_rfl) (fun _ _ _ h => h) (Or.inl ⟨by rfl, ?_⟩) (by assumption) ?_
        rotate_left 1
        · (intro w hSw; clear hSw; (first | (go_simp; done) | (go_simp; with_reducible rfl)))
        try simp only [Act.put, List.getElem_toArray, List.getElem_cons_zero, List.getElem_cons_succ, List.setIfInBounds_toArray, List.set_cons_zero, List.set_cons_succ]
        refine wpAnyH_done (by kernel_rfl) ?_ _
        refine NoPanic.normal ?_
        clear hHeld
        go_wp2_with fail
        refine bodyPost_ret (v := .tuple #[.slice a8 n8 c8, .bool true]) (by simp [results, Try.results51, go_sem]) rfl ⟨HBf.out, ?_⟩
        rw [HRe2.out]
        exact ⟨_, rfl, HRs.out⟩
      · have hcp2 : ¬ J = qc := fun e => hcp e.symm
        have hcp3 : (J : Int) ≤ (qc : Int) := by omega
        refine wp_region_noPanic ?_
        refine wp_region_held_drew (S := fun w' => Bx w' B4 #[.slice da D.length dc] 31 ∧ w'.cell? ⟨b, o + i * 2, none⟩ = some (.slice pa np pc) ∧ w'.cell? ⟨b, o + i * 2 + 1, none⟩ = some (.slice (some ⟨cb, co, none⟩) nc cc)) (by kernel_rfl) ⟨k0, c0, c1⟩ (fun hHeld => ?_)
        refine wpAnyH_take (i := 0) (oi := _) (v := ?_) rfl (by kernel_rfl) (by kernel_rfl) (by kernel_rfl) (fun _ _ _ h => h) (Or.inl ⟨by rfl, ?_⟩) (by assumption) ?_
        rotate_left 1
        · (intro w hSw; (try dsimp only at hSw); replace hSw := hSw.1.c 0; (first | (go_simp; done) | (go_simp; with_reducible rfl)))
        try simp only [Act.put, List.getElem_toArray, List.getElem_cons_zero, List.getElem_cons_succ, List.setIfInBounds_toArray, List.set_cons_zero, List.set_cons_succ]
        refine wpAnyH_take (i := 1) (oi := _) (v := ?_) rfl (by kernel_rfl) (by kernel_rfl) (by kernel_rfl) (fun _ _ _ h => h) (Or.inl ⟨by rfl, ?_⟩) (by assumption) ?_
        rotate_left 1
        · (intro w hSw; clear hSw; (first | (go_simp; done) | (go_simp; with_reducible rfl)))
        try simp only [Act.put, List.getElem_toArray, List.getElem_cons_zero, List.getElem_cons_succ, List.setIfInBounds_toArray, List.set_cons_zero, List.set_cons_succ]
        refine wpAnyH_take (i := 2) (oi := _) (v := ?_) rfl (by kernel_rfl) (by kernel_rfl) (by kernel_rfl) (fun _ _ _ h => h) (Or.inl ⟨by rfl, ?_⟩) (by assumption) ?_
        rotate_left 1
        · (intro w hSw; clear hSw; (first | (go_simp; done) | (go_simp; with_reducible rfl)))
        try simp only [Act.put, List.getElem_toArray, List.getElem_cons_zero, List.getElem_cons_succ, List.setIfInBounds_toArray, List.set_cons_zero, List.set_cons_succ]
        refine wpAnyH_take (i := 3) (oi := _) (v := ?_) rfl (by kernel_rfl) (by kernel_rfl) (by kernel_rfl) (fun _ _ _ h => h) (Or.inl ⟨by rfl, ?_⟩) (by assumption) ?_
        rotate_left 1
        · (intro w hSw; clear hSw; (first | (go_simp; done) | (go_simp; with_reducible rfl)))
        try simp only [Act.put, List.getElem_toArray, List.getElem_cons_zero, List.getElem_cons_succ, List.setIfInBounds_toArray, List.set_cons_zero, List.set_cons_succ]
        refine wpAnyH_take (i := 4) (oi := _) (v := ?_) rfl (by kernel_rfl) (by kernel_rfl) (by kernel_rfl) (fun _ _ _ h => h) (Or.inl ⟨by rfl, ?_⟩) (by assumption) ?_
        rotate_left 1
        · (intro w hSw; (try dsimp only at hSw); replace hSw := hSw.2; (first | (go_simp; done) | (go_simp; with_reducible rfl)))
        try simp only [Act.put, List.getElem_toArray, List.getElem_cons_zero, List.getElem_cons_succ, List.setIfInBounds_toArray, List.set_cons_zero, List.set_cons_succ]
        refine wpAnyH_take (i := 6) (oi := _) (v := ?_) rfl (by kernel_rfl) (by kernel_rfl) (by kernel_rfl) (fun _ _ _ h => h) (Or.inl ⟨by rfl, ?_⟩) (by assumption) ?_
        rotate_left 1
        · (intro w hSw; clear hSw; (first | (go_simp; done) | (go_simp; with_reducible rfl)))
        try simp only [Act.put, List.getElem_toArray, List.getElem_cons_zero, List.getElem_cons_succ, List.setIfInBounds_toArray, List.set_cons_zero, List.set_cons_succ]
        refine wpAnyH_take (i := 7) (oi := _) (v := ?_) rfl (by kernel_rfl) (by kernel_rfl) (by kernel_rfl) (fun _ _ _ h => h) (Or.inl ⟨by rfl, ?_⟩) (by assumption) ?_
        rotate_left 1
        · (intro w hSw; clear hSw; (first | (go_simp; done) | (go_simp; with_reducible rfl)))
        try simp only [Act.put, List.getElem_toArray, List.getElem_cons_zero, List.getElem_cons_succ, List.setIfInBounds_toArray, List.set_cons_zero, List.set_cons_succ]
        refine wpAnyH_take (i := 8) (oi := _) (v := ?_) rfl (by kernel_rfl) (by kernel_rfl) (by kernel_rfl) (fun _ _ _ h => h) (Or.inl ⟨by rfl, ?_⟩) (by assumption) ?_
        rotate_left 1
        · (intro w hSw; clear hSw; (first | (go_simp; done) | (go_simp; with_reducible rfl)))
        try simp only [Act.put, List.getElem_toArray, List.getElem_cons_zero, List.getElem_cons_succ, List.setIfInBounds_toArray, List.set_cons_zero, List.set_cons_succ]
        refine wpAnyH_take (i := 9) (oi := _) (v := ?_) rfl (by kernel_rfl) (by kernel_rfl) (by kernel_rfl) (fun _ _ _ h => h) (Or.inl ⟨by rfl, ?_⟩) (by assumption) ?_
        rotate_left 1
        · (intro w hSw; clear hSw; (first | (go_simp; done) | (go_simp; with_reducible rfl)))
        try simp only [Act.put, List.getElem_toArray, List.getElem_cons_zero, List.getElem_cons_succ, List.setIfInBounds_toArray, List.set_cons_zero, List.set_cons_succ]
        refine wpAnyH_take (i := 10) (oi := _) (v := ?_) rfl (by kernel_rfl) (by kernel_rfl) (by kernel_rfl) (fun _ _ _ h => h) (Or.inl ⟨by rfl, ?_⟩) (by assumption) ?_
        rotate_left 1
        · (intro w hSw; clear hSw; (first | (go_simp; done) | (go_simp; with_reducible rfl)))
        try simp only [Act.put, List.getElem_toArray, List.getElem_cons_zero, List.getElem_cons_succ, List.setIfInBounds_toArray, List.set_cons_zero, List.set_cons_succ]
        refine wpAnyH_take (i := 11) (oi := _) (v := ?_) rfl (by kernel_rfl) (by kernel_rfl) (by kernel_rfl) (fun _ _ _ h => h) (Or.inl ⟨by rfl, ?_⟩) (by assumption) ?_
        rotate_left 1
        · (intro w hSw; clear hSw; (first | (go_simp; done) | (go_simp; with_reducible rfl)))
        try simp only [Act.put, List.getElem_toArray, List.getElem_cons_zero, List.getElem_cons_succ, List.setIfInBounds_toArray, List.set_cons_zero, List.set_cons_succ]
        refine wpAnyH_take (i := 12) (oi := _) (v := ?_) rfl (by kernel_rfl) (by kernel_rfl) (by kernel_rfl) (fun _ _ _ h => h) (Or.inl ⟨by rfl, ?_⟩) (by assumption) ?_
        rotate_left 1
        · (intro w hSw; clear hSw; (first | (go_simp; done) | (go_simp; with_reducible rfl)))
        try simp only [Act.put, List.getElem_toArray, List.getElem_cons_zero, List.getElem_cons_succ, List.setIfInBounds_toArray, List.set_cons_zero, List.set_cons_succ]
        refine wpAnyH_ready (rs := [5]) (by kernel_rfl) (by simp) ?_
        refine AllReadyH.cons (o := _) rfl (fun K hK => ?_) AllReadyH.nil
        go_simp
        (with_reducible refine Calls.mono HAs.out ?_)
        rintro r w5 ⟨v5, xs5, rfl, hO5, hA5, hbc⟩
        have hbw : Below w3.heap.size w3 w5 := hB'.trans hbc
        replace k0 := k0.below hbc l0
        replace c0 := (hbc.cell (p := ⟨b, o + i * 2, none⟩) hbl).trans c0
        replace c1 := (hbc.cell (p := ⟨b, o + i * 2 + 1, none⟩) hbl).trans c1
        have HO5 := hide hO5
        have HA5 := hide hA5
        obtain ⟨a5, c5, e5⟩ := own_form hO5
        obtain ⟨n5, hn5⟩ : ∃ n5, n5 = (kidA a.p 0 a.k).length := ⟨_, rfl⟩
        rw [← hn5] at e5 HO5
        have Hn5 := hide hn5
        subst e5
        clear hO5 hA5 hbc HAs hn5
        (try go_wp2_with fail)
        refine hK.out _ _ ⟨k0, c0, c1⟩ (fun hHeld => ?_)
        clear hK K
        try simp only [Act.put, List.getElem_toArray, List.getElem_cons_zero, List.getElem_cons_succ, List.setIfInBounds_toArray, List.set_cons_zero, List.set_cons_succ]
        refine wpAnyH_ready (rs := [13]) (by kernel_rfl) (by simp) ?_
        refine AllReadyH.cons (o := _) rfl (fun K hK => ?_) AllReadyH.nil
        go_simp
        have hbA : Below w5.heap.size w5 (w5.alloc (.cells #[.slice a5 n5 c5, .slice (some ⟨b, o, none⟩) i qc, .slice (some ⟨b, o + J * 2, none⟩) (nq - J) (qc - J)] 82)) := (Below.refl _ _).alloc (Nat.le_refl _) _
        have HXn : Hid (Bx (w5.alloc (.cells #[.slice a5 n5 c5, .slice (some ⟨b, o, none⟩) i qc, .slice (some ⟨b, o + J * 2, none⟩) (nq - J) (qc - J)] 82)) w5.heap.size #[.slice a5 n5 c5, .slice (some ⟨b, o, none⟩) i qc, .slice (some ⟨b, o + J * 2, none⟩) (nq - J) (qc - J)] 82) := hide (Bx.new _ _ _)
        obtain ⟨W6, hW6⟩ : ∃ W6, W6 = w5.alloc (.cells #[.slice a5 n5 c5, .slice (some ⟨b, o, none⟩) i qc, .slice (some ⟨b, o + J * 2, none⟩) (nq - J) (qc - J)] 82) := ⟨_, rfl⟩
        rw [← hW6] at hbA HXn ⊢
        clear hW6
        have hb5 : b < w5.heap.size := Nat.lt_of_lt_of_le hbl hbw.size
        replace k0 := k0.below hbA k0.lt
        replace c0 := (hbA.cell (p := ⟨b, o + i * 2, none⟩) hb5).trans c0
        replace c1 := (hbA.cell (p := ⟨b, o + i * 2 + 1, none⟩) hb5).trans c1
        have hbW : Below w3.heap.size w3 W6 := hbw.trans (hbA.mono hbw.size)
        have hxl : xs.length = nq * 2 := by have := HAv.out.1; rw [← Hnq.out] at this; exact this
        have hkf : n5 ≤ 999 := by have := kidA_few a.p a.k 0; have := Hak.out.2; have := Hn5.out; omega
        have HCn : Hid (Calls Try.prog 55 #[.slice (some ⟨w5.heap.size, 0, none⟩) 3 3] W6 fun e w' => ∃ v, e = .returned v ∧ w'.ownsRow W6.heap.size 92 2 v (n5 + (i + (nq - J + 0))) (xs5 ++ (xs.take (i * 2) ++ (xs.drop (J * 2) ++ []))) ∧ Below W6.heap.size W6 w') := hide (concatA_any w5.heap.size [(.slice a5 n5 c5, n5, xs5), (.slice (some ⟨b, o, none⟩) i qc, i, xs.take (i * 2)), (.slice (some ⟨b, o + J * 2, none⟩) (nq - J) (qc - J), nq - J, xs.drop (J * 2))] W6 (by simp) HXn.out.lt (fun j hj => by
            rw [HXn.out.c]
            match j, hj with
            | 0, _ => rfl
            | 1, _ => rfl
            | 2, _ => rfl) (fun j hj => by
            match j, hj with
            | 0, _ => exact (own_pta HO5.out HA5.out.one).below hbA
            | 1, _ => exact (HRow.out.pt HAv.out.one i (by omega) qc (by omega)).below hbW
            | 2, _ => exact ((HRow.out.ptd HAv.out.one J (by omega) (qc - J) (o + J * 2) (by omega) (fun _ => rfl)).below hbW)) (by show n5 + (i + (nq - J + 0)) ≤ 1048576; omega))
        refine hK.out _ _ ⟨k0, c0, c1⟩ (fun hHeld => ?_)
        clear hK K
        try simp only [Act.put, List.getElem_toArray, List.getElem_cons_zero, List.getElem_cons_succ, List.setIfInBounds_toArray, List.set_cons_zero, List.set_cons_succ]
        refine wpAnyH_ready (rs := [14]) (by kernel_rfl) (by simp) ?_
        refine AllReadyH.cons (o := _) rfl (fun K hK => ?_) AllReadyH.nil
        go_simp
        (with_reducible refine Calls.mono HCn.out ?_)
        rintro r w8 ⟨v8, rfl, hO8, hbc⟩
        have hbf : Below w3.heap.size w3 w8 := hbW.trans (hbc.mono hbW.size)
        replace k0 := k0.below hbc k0.lt
        replace c0 := (hbc.cell (p := ⟨b, o + i * 2, none⟩) (Nat.lt_of_lt_of_le hb5 hbA.size)).trans c0
        replace c1 := (hbc.cell (p := ⟨b, o + i * 2 + 1, none⟩) (Nat.lt_of_lt_of_le hb5 hbA.size)).trans c1
        have HRs : Hid (AkS O w8 v8 (kidA a.p 0 a.k ++ q.take i ++ q.drop J)) := hide (by
          have A1 : AVs O w8 xs5 (kidA a.p 0 a.k) := (HA5.out.mono (fun k hk => .inr ⟨Nat.lt_of_lt_of_le (HO.out k hk) hB.size, fun e => hcO (e ▸ hk)⟩)).later (Off.of_below (hbA.trans (hbc.mono hbA.size))) (fun k hk => .inl hk)
          have A2 : AVs O w8 (xs.take (i * 2)) (q.take i) := by have := (HAv.out.cut 0 i (by rw [← Hnq.out]; omega)).later (Off.of_below hbf) (fun k hk => .inl hk); simpa using this
          have A3 : AVs O w8 (xs.drop (J * 2)) (q.drop J) := by
            have := (HAv.out.cut J (nq - J) (by rw [← Hnq.out]; omega)).later (Off.of_below hbf) (fun k hk => .inl hk)
            rwa [List.take_of_length_le (by rw [List.length_drop, hxl]; omega), List.take_of_length_le (by rw [List.length_drop, ← Hnq.out]; omega)] at this
          have hl8 : (kidA a.p 0 a.k ++ q.take i ++ q.drop J).length = n5 + (i + (nq - J + 0)) := by simp only [List.length_append, List.length_take, List.length_drop]; have := Hn5.out; have := Hnq.out; omega
          refine ⟨xs5 ++ xs.take (i * 2) ++ xs.drop (J * 2), ?_, (A1.app A2).app A3⟩
          rw [hl8, show xs5 ++ xs.take (i * 2) ++ xs.drop (J * 2) = xs5 ++ (xs.take (i * 2) ++ (xs.drop (J * 2) ++ [])) by rw [List.append_nil, List.append_assoc]]
          refine RowX.ofOwn hO8 (fun k hk hc => ?_)
          have h1 := own_ge hO8 k hk
          have h2 := HO.out k hc
          have h3 := hbA.size
          have h4 := hbw.size
          have h5 := hB3.size
          omega)
        obtain ⟨a8, c8, e8⟩ := own_form hO8
        obtain ⟨n8, hn8⟩ : ∃ n8, n8 = n5 + (i + (nq - J + 0)) := ⟨_, rfl⟩
        rw [← hn8] at e8
        subst e8
        have HBf := hide (hB3.trans (hbf.mono hB3.size))
        clear hO8 hbc HCn hn8
        (try go_wp2_with fail)
        refine hK.out _ _ ⟨k0, c0, c1⟩ (fun hHeld => ?_)
        clear hK K
        try simp only [Act.put, List.getElem_toArray, List.getElem_cons_zero, List.getElem_cons_succ, List.setIfInBounds_toArray, List.set_cons_zero, List.set_cons_succ]
        refine wpAnyH_take (i := 15) (oi := _) (v := ?_) rfl (by kernel_rfl) (by kernel_rfl) (by kernel_rfl) (fun _ _ _ h => h) (Or.inl ⟨by rfl, ?_⟩) (by assumption) ?_
        rotate_left 1
        · (intro w hSw; clear hSw; (first | (go_simp; done) | (go_simp; with_reducible rfl)))
        try simp only [Act.put, List.getElem_toArray, List.getElem_cons_zero, List.getElem_cons_succ, List.setIfInBounds_toArray, List.set_cons_zero, List.set_cons_succ]
        refine wpAnyH_take (i := 16) (oi := _) (v := ?_) rfl (by kernel_rfl) (by kernel_rfl) (by kernel_rfl) (fun _ _ _ h => h) (Or.inl ⟨by rfl, ?_⟩) (by assumption) ?_
        rotate_left 1
        · (intro w hSw; clear hSw; (first | (go_simp; done) | (go_simp; with_reducible rfl)))
        try simp only [Act.put, List.getElem_toArray, List.getElem_cons_zero, List.getElem_cons_succ, List.setIfInBounds_toArray, List.set_cons_zero, List.set_cons_succ]
        refine wpAnyH_done (by kernel_rfl) ?_ _
        refine NoPanic.normal ?_
        clear hHeld
        go_wp2_with fail
        refine bodyPost_ret (v := .tuple #[.slice a8 n8 c8, .bool true]) (by simp [results, Try.results51, go_sem]) rfl ⟨HBf.out, ?_⟩
        rw [HRe2.out]
        exact ⟨_, rfl, HRs.out⟩
    · have HRe : Hid (R = none) := hide (by rw [HRa.out, if_neg hcon])
      have hcon' : ¬ c = a.x.con := fun e => hcon e.symm
      clear HRa
      go_wp2_with fail
      refine bodyPost_ret (v := .tuple #[.slice none 0 0, .bool false]) (by simp [results, Try.results51, go_sem]) rfl ⟨hB3, ?_⟩
      rw [HRe.out]
      rfl
end Go.Proofs.Ytmlpnmdckgppnaa.W

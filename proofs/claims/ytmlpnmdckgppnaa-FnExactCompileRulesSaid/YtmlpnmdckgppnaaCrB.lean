/-
  The asks of the parts behind a constructor, by the program: a contract of asksOfParts. Conditions: good data, paths of at most 1000 numbers, at most 1000 cells.
-/
import Derived.Test.YtmlpnmdckgppnaaCrA
namespace Go.Proofs.Ytmlpnmdckgppnaa.W
open Go.ChangeShapes Go.WideShapes Go.ChangeAt Go.RowKit
set_option linter.unusedVariables false

theorem infoIntC : (Try.prog.info? 3).map (fun i => (i.zero, i.size, i.bytes)) = some (some (.int .i64 0), 1, 8) := by kernel_rfl
theorem iv_new {w : World} {l : List Int} {zs : Array Value} {g c : Nat} {t : TypeId} (h : w.heap[g]? = some (.cells ((l.map (fun x => Value.int .i64 x)).toArray ++ zs) t (0, 0))) (hl : l.length ≤ 1048576) : IV w (.slice (some ⟨g, 0, none⟩) l.length c) l := by
  refine ⟨_, _, rfl, .inr ⟨g, 0, rfl, (Array.getElem?_eq_some_iff.1 h).1, fun i hi r hr => ?_⟩, hl⟩
  obtain rfl : r = 0 := by omega
  rw [cell_of_blk h, Nat.zero_add, Nat.mul_one, Nat.add_zero, Array.getElem?_append_left (by simpa using hi)]
  simp [hi]
/-- A number put behind a row that has no room: a new row. -/
theorem run_append_full (w : World) (ty : TypeId) (pa : Option Addr) (p : List Int) (hp : IRow w pa p) (hl : p.length ≤ 100000) (hn : pa = none → p = []) (nb : Nat) (x : Int) (hx : w.heap[nb]? = some (.cells #[.int .i64 x] 3 (0, 0))) :
    ∃ g c w', (Builtin.append_ #[22, 22] ty #[.slice pa p.length p.length, .slice (some ⟨nb, 0, none⟩) 1 1]).run Try.prog w = .ok (.slice (some ⟨g, 0, none⟩) (p.length + 1) c) w' ∧ w.heap.size ≤ g ∧ IV w' (.slice (some ⟨g, 0, none⟩) (p.length + 1) c) (p ++ [x]) ∧ Below w.heap.size w w' ∧ p.length + 1 ≤ c := by
  obtain ⟨i0, hi0, hz0, hz1, hz2⟩ := infoPartsT infoIntC
  have hnews : ∀ j v, [Value.int .i64 x][j]? = some v → w.cell? ((⟨nb, 0, none⟩ : Addr).add j) = some v := by
    intro j v hv
    rw [Addr.add_lit, Nat.zero_add, cell_of_blk hx, ← hv]
    simp
  have hB : ∀ o, Below w.heap.size w (w.drew.alloc o) := fun o => ((Below.refl _ _).drew).alloc (Nat.le_refl _) o
  cases pa with
  | none =>
    obtain rfl := hn rfl
    have hr := run_append_nil (P := Try.prog) (w := w) 22 ty 3 i0 (.int .i64 0) Try.underlying22 hi0 hz0 ⟨nb, 0, none⟩ 1 1 [.int .i64 x] (by rw [hz1]; rfl) hnews (by decide) (by decide) (by rw [hz2]; decide)
    refine ⟨w.heap.size, _, _, hr, Nat.le_refl _, ?_, hB _, grownCap_ge _ _ _ _⟩
    exact iv_new (l := [x]) (heap_alloc_new w.drew _) (by simp)
  | some a =>
    have hr := run_append_grow (P := Try.prog) (w := w) 22 ty 3 i0 (.int .i64 0) Try.underlying22 hi0 hz0 a p.length p.length (p.map (fun x => Value.int .i64 x)) (by rw [hz1]; simp) (by
      intro j v hv
      rcases hp with h | ⟨b, o, e, h⟩
      · subst h; simp at hv
      · cases e
        have hj : j < p.length := by
          have := (List.getElem?_eq_some_iff.1 hv).1
          simpa using this
        have := h.2 j hj 0 (by decide)
        rw [Nat.mul_one, Nat.add_zero] at this
        rw [Addr.add_lit, this, ← hv]
        simp [hj]) ⟨nb, 0, none⟩ 1 1 [.int .i64 x] (by rw [hz1]; rfl) hnews (by omega) (by omega) (growslice_fits (by omega) (by rw [hz2]; omega))
    refine ⟨w.heap.size, _, _, hr, Nat.le_refl _, ?_, hB _, grownCap_ge _ _ _ _⟩
    have h0 := heap_alloc_new w.drew (.cells ((p.map (fun x => Value.int .i64 x)).toArray ++ [Value.int .i64 x].toArray ++ Builtin.zeroCells (Value.int .i64 0).cells (grownCap w (p.length + 1) p.length 3 - (p.length + 1))) 3)
    have h1 := iv_new (l := p ++ [x]) (zs := Builtin.zeroCells (Value.int .i64 0).cells (grownCap w (p.length + 1) p.length 3 - (p.length + 1))) (g := w.heap.size) (c := grownCap w (p.length + 1) p.length 3) (t := 3) (w := w.drew.alloc (.cells ((p.map (fun x => Value.int .i64 x)).toArray ++ [Value.int .i64 x].toArray ++ Builtin.zeroCells (Value.int .i64 0).cells (grownCap w (p.length + 1) p.length 3 - (p.length + 1))) 3)) (by
      rw [show ((p ++ [x]).map (fun x => Value.int .i64 x)).toArray = (p.map (fun x => Value.int .i64 x)).toArray ++ [Value.int .i64 x].toArray by simp]
      exact h0) (by simp; omega)
    rw [List.length_append] at h1
    exact h1
theorem wpList_append_full {ops : Array Oper} {rest : List Oper} {o : Oper} {a : Act} {w : World} {Q : Exit → Act → World → Prop} (hgd : o.guard = none) (d s : Operand)
    (ho : o.op = .call { callee := .builtin .append, args := #[d, s], argTypes := #[22, 22] }) (pa : Option Addr) (p : List Int) (n : Nat) (hpn : n = p.length) (nb : Nat) (x : Int) (hd : a.eval d = .slice pa n n) (hs : a.eval s = .slice (some ⟨nb, 0, none⟩) 1 1)
    (hp : IRow w pa p) (hl : p.length ≤ 100000) (hn : pa = none → p = []) (hx : w.heap[nb]? = some (.cells #[.int .i64 x] 3 (0, 0)))
    (h : ∀ g c w', w.heap.size ≤ g → IV w' (.slice (some ⟨g, 0, none⟩) (n + 1) c) (p ++ [x]) → Below w.heap.size w w' → n + 1 ≤ c → wpList Try.prog ops Q rest (a.put o.dst (.slice (some ⟨g, 0, none⟩) (n + 1) c)) w') : wpList Try.prog ops Q (o :: rest) a w := by
  subst hpn
  obtain ⟨g, c, w', hr, h1, h2, h3, h4⟩ := run_append_full w o.type pa p hp hl hn nb x hx
  refine wpList_plain hgd fun K hK => ?_
  unfold Oper.wp execOp
  simp only [ho, resolve, invoke, builtin, Sem.run_bind, Sem.run_pure, Result.andThen_ok, List.map_toArray, List.map_cons, List.map_nil, hd, hs, hr]
  exact hK _ _ (h g c w' h1 h2 h3 h4)

/-- All blocks that were there but this one, and a row's own. -/
def ObB (n b : Nat) (v : Value) : Nat → Prop := fun g => v.ownBlock = some g ∨ (g < n ∧ g ≠ b)

set_option maxRecDepth 20000 in
set_option maxHeartbeats 8000000 in
theorem asksOfParts_any (vd : Value) (D : List Int) (pa : Option Addr) (pc : Nat) (p : List Int) (pn : Nat) (b o N c : Nat) (x : Pt) (k : F) (w : World) (hD : DRow w vd D) (hd : goodD D = true) (hx : (F.cons x k .nil).ok D)
    (hp : IRow w pa p) (hpn : pn = p.length) (hpl : p.length ≤ 1000) (hpc : p.length ≤ pc) (hn : pa = none → p = [] ∧ pc = 0) (hl : RAt 2 Pt.c w b o (x :: k.flat)) (hN : N = k.flat.length + 1) (hNl : N ≤ 1000) (hc : N ≤ c) :
    Calls Try.prog 56 #[vd, .agg #[.slice pa pn pc, .slice (some ⟨b, o, none⟩) N c]] w fun e w' => ∃ v' xs, e = .returned v' ∧ w'.ownsRow (w.heap.size + 2) 92 2 v' (kidA p 0 k).length xs ∧ AVs (ObB w.heap.size b v') w' xs (kidA p 0 k) ∧ Below w.heap.size w w' := by
  have HD := hide hD
  have Hd := hide hd
  obtain ⟨da, dc, rfl, -, hDl⟩ := hD
  have HP := hide hp
  have HPl := hide hpl
  have HPn := hide hpn
  have HL := hide hl
  have HX := hide hx
  have HPb := hide (fun (w' : World) (hb : Below w.heap.size w w') => partsBehind_any (.agg #[.slice da D.length dc]) D x w' (HD.out.below hb) hd hx.1)
  have har : ar D x = k.len := hx.2.1.symm
  rw [har] at HPb
  have p0 := hl.2 0 (by simp) 0 (by decide)
  have p1 := hl.2 0 (by simp) 1 (by decide)
  simp only [Nat.zero_mul, Nat.add_zero, List.getElem_cons_zero, Pt.c] at p0 p1
  have hbl := hl.1
  have HNn := hide hN
  have hN1 : (1 : Int) ≤ (N : Int) := by omega
  have hNc : (N : Int) ≤ (c : Int) := by omega
  have hpc' : (pn : Int) ≤ (pc : Int) := by omega
  have hp0 : (0 : Int) ≤ (pn : Int) := by omega
  clear hd hp hpn hl hx hN har
  go_enter Try.func56, Try.ntmps56
  have HB0 := hide (show Below w.heap.size w ((w.alloc (.cells #[.slice da D.length dc] 31)).alloc (.cells #[.slice pa pn pc, .slice (some ⟨b, o, none⟩) N c] 92)) from ((Below.refl _ _).alloc (Nat.le_refl _) _).alloc (by simp) _)
  have HX0 := hide ((Bx.new w #[.slice da D.length dc] 31).alloc (.cells #[.slice pa pn pc, .slice (some ⟨b, o, none⟩) N c] 92))
  have HX1 := hide (show Bx ((w.alloc (.cells #[.slice da D.length dc] 31)).alloc (.cells #[.slice pa pn pc, .slice (some ⟨b, o, none⟩) N c] 92)) (w.heap.size + 1) #[.slice pa pn pc, .slice (some ⟨b, o, none⟩) N c] 92 from by
    have := Bx.new (w.alloc (.cells #[.slice da D.length dc] 31)) #[.slice pa pn pc, .slice (some ⟨b, o, none⟩) N c] 92
    simpa using this)
  by_cases hc1 : (c : Int) = 1
  · go_wp2_with fail
    go_cut [27, 28] from 22 to 28 (fun v27 v28 wx => v27 = .int .i64 (k.len : Int) ∧ v28 = .int .i64 0 ∧ Bx wx w.heap.size #[.slice da D.length dc] 31 ∧ Bx wx (w.heap.size + 1) #[.slice pa pn pc, .slice (some ⟨b, o, none⟩) N c] 92 ∧ Below w.heap.size w wx)
    case first =>
      go_region_with (go_at_call 46; refine Calls.mono (HPb.out _ ⟨HB0.out.os, HB0.out.tape, HB0.out.output, HB0.out.size, HB0.out.block⟩) ?_; rintro e w2 ⟨rfl, hb2⟩)
      all_goals
        go_wp2_with fail
        go_meet
        exact ⟨rfl, rfl, HX0.out.below ⟨hb2.os, hb2.tape, hb2.output, hb2.size, hb2.block⟩ HX0.out.lt, HX1.out.below ⟨hb2.os, hb2.tape, hb2.output, hb2.size, hb2.block⟩ HX1.out.lt, HB0.out.trans (Below.mono ⟨hb2.os, hb2.tape, hb2.output, hb2.size, hb2.block⟩ HB0.out.size)⟩
    case rest =>
      obtain ⟨rfl, rfl, hX0, hX1, hB⟩ := hcut
      have hkn : k = .nil := by
        have h1 : k.flat.length = 0 := by have := HNn.out; omega
        have := F.len_flat k
        exact F.len_0 (by omega)
      subst hkn
      go_wp2_with fail
      go_loopw [5, 28] (fun v5 i w' => v5 = .slice none 0 0 ∧ i = .int .i64 0 ∧ w' = wc) (fun _ _ _ => 0)
      case atStart => exact ⟨rfl, rfl, rfl⟩
      case round =>
        obtain ⟨rfl, rfl, rfl⟩ := hrel
        simp only [F.len]
        go_wp2_with fail
        go_ret
        exact ⟨_, [], rfl, World.ownsRow_nil _ _ _ _, AVs.nil _ _, hB⟩
  · have hc2 : (1 : Int) < (c : Int) := by omega
    go_wp2_with fail
    go_cut [27, 28] from 22 to 28 (fun v27 v28 wx => v27 = .int .i64 (k.len : Int) ∧ v28 = .int .i64 0 ∧ Bx wx w.heap.size #[.slice da D.length dc] 31 ∧ Bx wx (w.heap.size + 1) #[.slice pa pn pc, .slice (some ⟨b, o, none⟩) N c] 92 ∧ Below w.heap.size w wx)
    case first =>
      go_region_with (go_at_call 46; refine Calls.mono (HPb.out _ ⟨HB0.out.os, HB0.out.tape, HB0.out.output, HB0.out.size, HB0.out.block⟩) ?_; rintro e w2 ⟨rfl, hb2⟩)
      all_goals
        go_wp2_with fail
        go_meet
        exact ⟨rfl, rfl, HX0.out.below ⟨hb2.os, hb2.tape, hb2.output, hb2.size, hb2.block⟩ HX0.out.lt, HX1.out.below ⟨hb2.os, hb2.tape, hb2.output, hb2.size, hb2.block⟩ HX1.out.lt, HB0.out.trans (Below.mono ⟨hb2.os, hb2.tape, hb2.output, hb2.size, hb2.block⟩ HB0.out.size)⟩
    case rest =>
      obtain ⟨rfl, rfl, hX0, hX1, hB⟩ := hcut
      have HB := hide hB
      have HXa := hide hX0
      have HXb := hide hX1
      clear hX0 hX1 HB0 HX0 HX1
      obtain ⟨kl, hkl⟩ : ∃ n, n = k.len := ⟨_, rfl⟩
      have HKl := hide hkl
      rw [← hkl]
      have hLr : RAt 2 Pt.c w b (o + 2) k.flat := ⟨HL.out.1, fun i hi r hr => by
        have := HL.out.2 (i + 1) (by simpa using hi) r hr
        rw [show o + 2 + i * 2 + r = o + (i + 1) * 2 + r by omega]
        simpa using this⟩
      have HLr := hide hLr
      have hfl : k.flat.length = N - 1 := by have := HNn.out; omega
      have hst : ∃ (j : Nat) (s : F) (xs : List Value) (q : List Ak), j + s.len = kl ∧ s.ok D ∧ (.int .i64 0 : Value) = .int .i64 j ∧ (∃ q' c', (.slice (some ⟨b, o + 2, none⟩) (N - 1) (c - 1) : Value) = .slice (some ⟨b, q', none⟩) s.flat.length c' ∧ s.flat.length ≤ c' ∧ (s.flat ≠ [] → RAt 2 Pt.c w b q' s.flat)) ∧ s.flat.length ≤ 1000 ∧
          kidA p 0 k = q ++ kidA p j s ∧ q.length ≤ j ∧ wc.ownsRow (w.heap.size + 2) 92 2 (.slice none 0 0) q.length xs ∧ AVs (ObB w.heap.size b (.slice none 0 0)) wc xs q ∧ Bx wc w.heap.size #[.slice da D.length dc] 31 ∧ Bx wc (w.heap.size + 1) #[.slice pa pn pc, .slice (some ⟨b, o, none⟩) N c] 92 ∧ Below w.heap.size w wc :=
        ⟨0, k, [], [], by omega, HX.out.2.2.1, rfl, ⟨o + 2, c - 1, by rw [hfl], by omega, fun _ => hLr⟩, by omega, rfl, Nat.le_refl _, World.ownsRow_nil _ _ _ _, AVs.nil _ _, HXa.out, HXb.out, HB.out⟩
      have HSt := hide hst
      clear hst hLr hfl hB hkl HXa HXb HB HLr
      go_wp2_with fail
      go_loopw [5, 7, 28] (fun v5 v7 i w' => ∃ (j : Nat) (s : F) (xs : List Value) (q : List Ak), j + s.len = kl ∧ s.ok D ∧ i = .int .i64 j ∧ (∃ q' c', v7 = .slice (some ⟨b, q', none⟩) s.flat.length c' ∧ s.flat.length ≤ c' ∧ (s.flat ≠ [] → RAt 2 Pt.c w b q' s.flat)) ∧ s.flat.length ≤ 1000 ∧
          kidA p 0 k = q ++ kidA p j s ∧ q.length ≤ j ∧ w'.ownsRow (w.heap.size + 2) 92 2 v5 q.length xs ∧ AVs (ObB w.heap.size b v5) w' xs q ∧ Bx w' w.heap.size #[.slice da D.length dc] 31 ∧ Bx w' (w.heap.size + 1) #[.slice pa pn pc, .slice (some ⟨b, o, none⟩) N c] 92 ∧ Below w.heap.size w w') (fun _ _ i _ => kl - (intOf i).toNat)
      case atStart => exact HSt.out
      case round =>
        clear HSt
        obtain ⟨j, s, xs, q, hjs, hok, rfl, ⟨q', c', rfl, hsc, hsr⟩, hsl, hkq, hqj, hO, hA, hXa, hXb, hB⟩ := hrel
        obtain ⟨sad, sn, sc, hsf⟩ : ∃ sad sn sc, u5 = .slice sad sn sc := by
          obtain ⟨a, c, e⟩ := own_form hO
          exact ⟨_, _, _, e⟩
        subst hsf
        have HO := hide hO
        have HA := hide hA
        have HXa := hide hXa
        have HXb := hide hXb
        have HKq := hide hkq
        have hol := hide hO.lt
        have xa := hXa.lt
        have xb := hXb.lt
        clear hO hA hXa hXb hkq
        by_cases hlt : j < kl
        · have hlt' : (j : Int) < (kl : Int) := by omega
          cases s with
          | nil => simp [F.len] at hjs; omega
          | cons x' k' s' =>
            have hla : (F.cons x' k' s').flat = (F.cons x' k' .nil).flat ++ s'.flat := by simp [F.flat]
            have hne : (F.cons x' k' s').flat ≠ [] := by simp [F.flat]
            have hR := hsr hne
            obtain ⟨m, hm⟩ : ∃ m, m = (F.cons x' k' .nil).flat.length := ⟨_, rfl⟩
            obtain ⟨L, hL⟩ : ∃ L, L = (F.cons x' k' s').flat.length := ⟨_, rfl⟩
            have hm1 : m = k'.flat.length + 1 := by rw [hm]; simp [F.flat]
            have hLm : L = m + s'.flat.length := by rw [hL, hm, hla]; simp
            have HC := hide (fun (w' : World) (hb : Below wr.heap.size wr w') => cutFirst_any (.agg #[.slice da D.length dc]) D b q' c' (F.cons x' k' s').flat (F.cons x' k' .nil) s'.flat w' (HD.out.below (hB.trans (hb.mono hB.size))) Hd.out (by omega) hsc (hR.below (hB.trans (hb.mono hB.size))) hla ⟨hok.1, hok.2.1, hok.2.2.1, trivial⟩ rfl)
            rw [← hm, ← hL] at HC
            rw [← hL] at hsc hsl ⊢
            have HR := hide hR
            have HM := hide hm1
            have HOk := hide hok
            have hkid : kidA p j (.cons x' k' s') = (if x'.kd = 1 then [] else [⟨p ++ [(j : Int)], x', k'⟩]) ++ kidA p (j + 1) s' := by
              rw [kidA]; split <;> rfl
            have HKid := hide hkid
            have hsl' : s'.flat.length ≤ 1000 := by omega
            have hml : m ≤ 1000 := by omega
            have hscc : s'.flat.length ≤ c' - m := by omega
            have HWl := hide (show RAt 2 Pt.c w b q' (x' :: k'.flat) from ⟨hR.1, fun i hi r hr => by
              have hi2 : i < (F.cons x' k' s').flat.length := by simp [F.flat] at hi ⊢; omega
              have := hR.2 i hi2 r hr
              rw [this]
              congr 2
              simp only [F.flat]
              cases i with
              | zero => rfl
              | succ i => simp only [List.getElem_cons_succ]; rw [List.getElem_append_left (by simpa using hi)]⟩)
            have HRr := hide (show s'.flat ≠ [] → RAt 2 Pt.c w b (q' + m * 2) s'.flat from fun hs => ⟨hR.1, fun i hi r hr => by
              have hi2 : m + i < (F.cons x' k' s').flat.length := by rw [← hL]; omega
              have := hR.2 (m + i) hi2 r hr
              rw [show q' + m * 2 + i * 2 + r = q' + (m + i) * 2 + r by omega, this]
              congr 2
              rw [List.getElem_of_eq hla, List.getElem_append_right (by rw [← hm]; omega)]
              congr 1
              omega⟩)
            have hjs' : j + 1 + s'.len = kl := by simp [F.len] at hjs; omega
            have cx := HXa.out.c
            clear hla hne hR hm hL hm1 hLm hok hkid hjs hsr
            go_wp2_with fail
            refine Calls.mono (HC.out _ (Below.refl _ _)) ?_
            rintro e w2 ⟨q2, rfl, hq2, hb2⟩
            have HQ2 := hide hq2
            have hsz2 := hb2.size
            have hB2 : Below w.heap.size w w2 := hB.trans (hb2.mono hB.size)
            have HX2 := hide (HXa.out.below hb2 xa)
            have HY2 := hide (HXb.out.below hb2 xb)
            have hO2 := own_keep HO.out (w' := w2) (fun k _ hk => hb2.block k hk)
            have HA2 := hide (HA.out.later (Off.of_below hb2) (fun i h => .inl h))
            have HO2 := hide hO2
            clear HC cx hO2
            go_wp2_with (at_builtin; refine wpList_append_full rfl _ _ rfl pa p pn HPn.out w2.heap.size (j : Int) rfl rfl ?c1 ?c2 ?c3 ?c4 ?_)
            case c1 => exact (HP.out.below hB2).below ((Below.refl _ _).alloc (Nat.le_refl _) _)
            case c2 => omega
            case c3 => exact fun h => (hn h).1
            case c4 => exact heap_alloc_new w2 _
            intro g c2 w4 hg hiv hb4 hcap
            have HCap := hide hcap
            clear hcap
            have hb24 : Below w2.heap.size w2 w4 := ((Below.refl _ _).alloc (Nat.le_refl _) _).trans (hb4.mono (by simp))
            have hB4 : Below w.heap.size w w4 := hB2.trans (hb24.mono hB2.size)
            have hsz4 := hb24.size
            have hg' : w2.heap.size < g := by first | omega | (simp at hg; omega)
            have HX4 := hide (HX2.out.below hb24 (by omega))
            have HY4 := hide (HY2.out.below hb24 (by omega))
            have hO4 := own_keep HO2.out (w' := w4) (fun k _ hk => hb24.block k hk)
            have HA4 := hide (HA2.out.later (Off.of_below hb24) (fun i h => .inl h))
            have HO4 := hide hO4
            have hkl9 : kl ≤ 1000 := by have h1 := HKl.out; have h2 := F.len_flat k; have h3 := HNn.out; omega
            have HW := hide (withAsk_any (w.heap.size + 2) (.slice sad sn sc) (some ⟨g, 0, none⟩) (pn + 1) c2 q.length xs b q' m m x' k'.flat w4 hO4 (HWl.out.below hB4) HM.out (by omega) (by omega))
            have HIv := hide hiv
            have HB4 := hide hB4
            clear hb4 hO4 hiv hg hB4 hb24 hb2 hB2 HX2 HY2 HO2 HA2 HO HA HXa HXb hq2
            go_wp2_with fail
            refine Calls.mono HW.out ?_
            clear HW
            rintro e w5 ⟨h1, h2⟩
            by_cases hk1 : x'.kd = 1
            · obtain ⟨rfl, rfl⟩ := h1 hk1
              clear h1 h2
              go_wp2_with fail
              exact ⟨⟨j + 1, s', xs, q, hjs', HOk.out.2.2.2, by go_num, ⟨q2, c' - m, rfl, hscc, fun hs => by rw [HQ2.out hs]; exact HRr.out hs⟩, hsl', by rw [HKq.out, HKid.out, if_pos hk1, List.nil_append], by omega, HO4.out, HA4.out, HX4.out, HY4.out, HB4.out⟩, by simp [intOf]; omega⟩
            · obtain ⟨v', rfl, hO5, hg5, hap⟩ := h2 hk1
              clear h1 h2
              have hof : Off (ObB w.heap.size b (.slice sad sn sc)) w4 w5 := Off.of_grown hg5 (fun k h => .inl h)
              have hB45 : Below (w.heap.size + 2) w4 w5 := (Below.refl _ _).grown hg5 (by omega) (fun k h => (hol.out k h).1)
              have hse : St (ObB w.heap.size b (.slice sad sn sc)) w4 (AkE ⟨p ++ [(j : Int)], x', k'⟩ (.slice (some ⟨g, 0, none⟩) (pn + 1) c2) (.slice (some ⟨b, q', none⟩) m m)) := by
                have e1 := St.iv (O := ObB w.heap.size b (.slice sad sn sc)) HIv.out (fun k hk hO => by
                  simp only [Value.ownBlock, Option.some.injEq] at hk
                  rcases hO with hO | ⟨hO, -⟩
                  · have := (hol.out k hO).2
                    omega
                  · have := hB.size; omega)
                have e2 := St.pv (O := ObB w.heap.size b (.slice sad sn sc)) (w := w4) (v := .slice (some ⟨b, q', none⟩) m m) (l := x' :: k'.flat) ⟨some ⟨b, q', none⟩, m, by simp [HM.out], .inr ⟨b, q', rfl, HWl.out.below HB4.out⟩, by simp [HM.out]⟩ (fun k hk hO => by
                  simp only [Value.ownBlock, Option.some.injEq] at hk
                  rcases hO with hO | ⟨-, hO⟩
                  · have := (hol.out k hO).1
                    have := HWl.out.1
                    omega
                  · exact hO hk.symm)
                exact fun w' h => ⟨e1 w' h, e2 w' h, ⟨_, _, _, rfl, HCap.out, fun h => by cases h⟩⟩
              have hA5 := (HA4.out.snoc hse).later hof (O' := ObB w.heap.size b v') (fun i h => by
                rcases h with h | h
                · rcases hap i h with h | h
                  · exact .inl (.inl h)
                  · exact .inr h
                · exact .inl (.inr h))
              have HA5 := hide hA5
              have HO5 := hide hO5
              have HX5 := hide (HX4.out.below hB45 (by omega))
              have HY5 := hide (HY4.out.below hB45 (by omega))
              have HB5 := hide (HB4.out.trans (hB45.mono (by omega)))
              clear hse hof hA5 hO5 hB45 hg5 hap
              obtain ⟨ta, tn, tc, htf⟩ : ∃ ta tn tc, v' = .slice ta tn tc := by
                obtain ⟨a, c, e⟩ := own_form HO5.out
                exact ⟨_, _, _, e⟩
              subst htf
              go_wp2_with fail
              exact ⟨⟨j + 1, s', _, q ++ [⟨p ++ [(j : Int)], x', k'⟩], hjs', HOk.out.2.2.2, by go_num, ⟨q2, c' - m, rfl, hscc, fun hs => by rw [HQ2.out hs]; exact HRr.out hs⟩, hsl', by rw [HKq.out, HKid.out, if_neg hk1, List.append_assoc], by simp; omega, by rw [List.length_append]; exact HO5.out, HA5.out, HX5.out, HY5.out, HB5.out⟩, by simp [intOf]; omega⟩
        · have hs0 : s = .nil := F.len_0 (by omega)
          subst hs0
          go_wp2_with fail
          go_ret
          have hk0 : kidA p 0 k = q := by rw [HKq.out]; simp [kidA]
          refine ⟨_, xs, rfl, ?_, ?_, hB⟩
          · rw [hk0]; exact HO.out
          · rw [hk0]; exact HA.out

end Go.Proofs.Ytmlpnmdckgppnaa.W

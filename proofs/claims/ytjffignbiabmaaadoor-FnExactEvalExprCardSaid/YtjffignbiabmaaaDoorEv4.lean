/-
  Numbers of expressions, the program's: contracts of twoAt and numberAt. Conditions: the numbers are in the bound; rows of at most 1048576 parts.
-/
import Derived.Test.YtjffignbiabmaaaDoorEv3
import Derived.Deep.RegionHeld3
namespace Go.Proofs.YtjffignbiabmaaaDoor.W
open Go.ChangeShapes Go.WideShapes Go.ChangeAt Go.RowKit
set_option linter.unusedVariables false

theorem belowDrew' {B : Nat} {x y : World} (h : Below B x y) : Below B x y.drew := ⟨h.os, h.tape, h.output, h.size, h.block⟩

set_option maxRecDepth 20000 in
set_option maxHeartbeats 4000000 in
theorem twoAt_any (g : Nat) (ade adn adv : Option Addr) (ce cn cv : Nat) (l : List Xx) (ns : List ByteArray) (vs : List Int) (hl : l.length ≤ 1048576) (hv : ∀ v ∈ vs, bdB v = true) (x : Xx) (a b : E)
    (iha : NAGoal g ade adn adv ce cn cv l ns vs a) (ihb : NAGoal g ade adn adv ce cn cv l ns vs b) (hok : (E.two x a b).ok) (p : Nat) (r : List Xx) (w : World) (hE : EvS w g ade adn adv ce cn cv l ns vs) (hd : l.drop p = (E.two x a b).flat ++ r) :
    Calls Tryd.prog 105 #[.pointer (some ⟨g, 0, none⟩), .int .i64 p] w fun y w' => NOut ns vs (.two x a b) p y ∧ Below w.heap.size w w' := by
  obtain ⟨hg, hb2, hoa, hob⟩ := hok
  have hba := ev_bd (ns := ns) hv a hoa
  have hbb := ev_bd (ns := ns) hv b hob
  have hk5 := behind_2 hb2
  have hst : strN x.t ≠ 0 := by
    simp [goodX, hk5] at hg; exact hg.2
  have hlen := drop_len hd (E.flat_pos _)
  have hd1 : l.drop p = x :: (a.flat ++ (b.flat ++ r)) := by rw [hd]; simp [E.flat]
  obtain ⟨hp, hx⟩ := drop_lt hd1
  have hp' : (p : Int) < (l.length : Int) := by omega
  have hda : l.drop (p + 1) = a.flat ++ (b.flat ++ r) := by rw [← List.drop_drop, hd1]; rfl
  have hdb : l.drop (p + 1 + a.flat.length) = b.flat ++ r := by rw [← List.drop_drop, hda]; simp
  have hlf : (E.two x a b).flat.length = 1 + a.flat.length + b.flat.length := by simp [E.flat]; omega
  have c0 := hE.c0
  obtain ⟨bb, o, rfl, hbb0, p0, p1, p2⟩ := hE.row.tok (Below.refl _ _) hp
  rw [hx] at p0 p1 p2
  have HE := hide hE
  have IA := hide (fun (w' : World) (hw' : EvS w' g (some ⟨bb, o, none⟩) adn adv ce cn cv l ns vs) => iha hoa (p + 1) _ w' hw' hda)
  have IB := hide (fun (w' : World) (hw' : EvS w' g (some ⟨bb, o, none⟩) adn adv ce cn cv l ns vs) => ihb hob (p + 1 + a.flat.length) _ w' hw' hdb)
  have IE := hide (fun (w' : World) (hw' : Row w' (some ⟨bb, o, none⟩) l) => endOf_any (some ⟨bb, o, none⟩) ce l w' hl hw' b (p + 1 + a.flat.length) r hdb hob)
  have hgl := hE.lt
  clear iha ihb hE hd hd1 hda hdb hx
  unfold NOut
  rw [hlf]
  have hev : ev ns vs (.two x a b) = if (ev ns vs a).2 ≠ 0 then (0, (ev ns vs a).2)
    else if x.t.toList = [38, 38] ∧ (ev ns vs a).1 = 0 then (0, 0)
    else if x.t.toList = [124, 124] ∧ (ev ns vs a).1 ≠ 0 then (1, 0)
    else if (ev ns vs b).2 ≠ 0 then (0, (ev ns vs b).2)
    else if x.t.toList = [38, 38] ∨ x.t.toList = [124, 124] then (tr ((ev ns vs b).1 != 0), 0)
    else do2 x.t.toList (ev ns vs a).1 (ev ns vs b).1 := rfl
  rw [hev]
  clear hev
  obtain ⟨ra, hra⟩ : ∃ ra, ra = ev ns vs a := ⟨_, rfl⟩
  obtain ⟨rb, hrb⟩ : ∃ rb, rb = ev ns vs b := ⟨_, rfl⟩
  unfold NOut at IA IB
  rw [← hra] at hba IA ⊢
  rw [← hrb] at hbb IB ⊢
  obtain ⟨t, ht⟩ : ∃ t, t = x.t := ⟨_, rfl⟩
  rw [← ht] at p2 hst ⊢
  obtain ⟨Fa, hFa⟩ : ∃ Fa, Fa = a.flat.length := ⟨_, rfl⟩
  obtain ⟨Fb, hFb⟩ : ∃ Fb, Fb = b.flat.length := ⟨_, rfl⟩
  rw [← hFa] at IA IB IE hlf ⊢
  rw [← hFb] at IB IE hlf ⊢
  have hlb : p + 1 + Fa + Fb + r.length = l.length := by rw [← hlen, hlf]; omega
  clear hra hrb ht hFa hFb hlf hlen hg hoa hob hb2
  obtain ⟨na, ca⟩ := ra
  obtain ⟨nb, cb⟩ := rb
  simp only at hba hbb IA IB ⊢
  obtain ⟨R, hR⟩ : ∃ R, R = (if ca ≠ 0 then (0, ca)
    else if t.toList = [38, 38] ∧ na = 0 then (0, 0)
    else if t.toList = [124, 124] ∧ na ≠ 0 then (1, 0)
    else if cb ≠ 0 then (0, cb)
    else if t.toList = [38, 38] ∨ t.toList = [124, 124] then (tr (nb != 0), 0)
    else do2 t.toList na nb : Int × Int) := ⟨_, rfl⟩
  rw [← hR]
  have HRr := hide hR
  clear hR
  have hqe : p + 1 + Fa + Fb = p + (1 + Fa + Fb) := by omega
  rw [hqe] at IB IE
  clear hqe
  obtain ⟨PB, hPB⟩ : ∃ PB, PB = p + (1 + Fa + Fb) := ⟨_, rfl⟩
  rw [← hPB] at IB IE ⊢
  obtain ⟨PA, hPA⟩ : ∃ PA, PA = p + 1 + Fa := ⟨_, rfl⟩
  rw [← hPA] at IA IB IE
  clear hPA hPB
  go_enter Tryd.func105, Tryd.ntmps105
  go_wp2_with fail
  refine Calls.mono (IA.out _ HE.out) ?_
  rintro e w1 ⟨⟨n1, c1, q1, rfl, rfl, h1⟩, hb1⟩
  have HE1 := hide (HE.out.below hb1)
  have d0 := HE1.out.c0
  clear p0 p1 p2 IA
  have hgl1 : g < w1.heap.size := Nat.lt_of_lt_of_le hgl hb1.size
  by_cases hca : c1 = 0
  · subst hca
    obtain ⟨rfl, rfl⟩ := h1 rfl
    clear h1
    have HB0 : Hid (Below w.heap.size w w1.drew) := hide (belowDrew' hb1)
    have HIE : Hid (∀ w', Below w1.heap.size w1 w' → Calls Tryd.prog 137 #[.slice (some ⟨bb, o, none⟩) l.length ce, .int .i64 (PA : Int)] w' fun x w'' => x = .returned (.int .i64 (PB : Int)) ∧ Below w'.heap.size w' w'') := hide (fun w' hw' => IE.out w' (HE1.out.row.below hw'))
    have HSh : Hid (∀ (b : Bool) (w' : World), Calls Tryd.prog 104 #[.bool b] w' fun e w'' => e = .returned (.int .i64 (tr b)) ∧ w'' = w') := hide oneIf_any
    have HIB := hide (fun (w' : World) (hw' : Below w1.heap.size w1 w') => IB.out w' (HE1.out.below hw'))
    clear IE IB
    by_cases hand : t.toList = [38, 38]
    · have hor : ¬ t.toList = [124, 124] := by rw [hand]; decide
      by_cases hn : n1 = 0
      · subst hn
        have hRe : R = (0, 0) := by rw [HRr.out]; simp [hand]
        subst hRe
        clear HRr HIB
        go_wp2_with fail
        go_region_held3 (fun w' => w'.cell? ⟨g, 0, none⟩ = some (.slice (some ⟨bb, o, none⟩) l.length ce)) (go_keep)
          (first
            | (go_at_call 104; (with_reducible refine Calls.mono (HSh.out _ _) ?_); rintro e w' ⟨rfl, rfl⟩)
            | (go_at_call 137; (with_reducible refine Calls.mono (HIE.out _ (belowDrew' (Below.refl _ _))) ?_); rintro e w5 ⟨rfl, hb5⟩; have HB5 := hide (HB0.out.trans (hb5.mono HB0.out.size)); have f0 := (hb5.cell (p := ⟨g, 0, none⟩) hgl1).trans d0; clear hb5))
        all_goals
          go_wp2_with fail
          exact bodyPost_ret (v := .tuple #[.int .i64 0, .int .i64 0, .int .i64 (PB : Int)]) (by simp [results, Tryd.results105, go_sem, tr]) rfl ⟨⟨0, 0, _, rfl, rfl, fun _ => ⟨rfl, rfl⟩⟩, HB5.out⟩
      · have hnb : (n1 == 0) = false := by simpa using hn
        have hnb' : (n1 != 0) = true := by simp [hn]
        go_wp2_with fail
        refine Calls.mono (HIB.out w1 (Below.refl _ _)) ?_
        rintro e w2 ⟨⟨n2, c2, q2, rfl, rfl, h2⟩, hb2⟩
        have hB2 : Below w.heap.size w w2 := hb1.trans (hb2.mono hb1.size)
        clear hb2 HIB HIE HSh HB0
        by_cases hcb : c2 = 0
        · subst hcb
          obtain ⟨rfl, rfl⟩ := h2 rfl
          have hRe : R = (tr (n2 != 0), 0) := by rw [HRr.out]; simp [hand, hn]
          have HRe := hide hRe
          clear HRr hRe h2
          go_wp2_with fail
          refine (doTwo_and t n1 n2 _ hand).mono ?_
          rintro e w3 ⟨rfl, rfl⟩
          go_wp2_with fail
          exact bodyPost_ret (v := .tuple #[.int .i64 (tr (n2 != 0)), .int .i64 0, .int .i64 (PB : Int)]) (by simp [results, Tryd.results105, go_sem]) rfl ⟨⟨_, _, _, rfl, by rw [HRe.out], fun _ => ⟨by rw [HRe.out], rfl⟩⟩, hB2⟩
        · have hRe : R = (0, c2) := by rw [HRr.out]; simp [hand, hn, hcb]
          have HRe := hide hRe
          have hcb1 : (c2 == 0) = false := by simpa using hcb
          have hcb2 : (c2 != 0) = true := by simp [hcb]
          clear HRr hRe h2
          go_wp2_with fail
          exact bodyPost_ret (v := .tuple #[.int .i64 0, .int .i64 c2, .int .i64 q2]) (by simp [results, Tryd.results105, go_sem]) rfl ⟨⟨_, _, _, rfl, by rw [HRe.out], fun h => absurd h hcb⟩, hB2⟩
    · by_cases hor : t.toList = [124, 124]
      · by_cases hn : n1 = 0
        · subst hn
          go_wp2_with fail
          refine Calls.mono (HIB.out w1 (Below.refl _ _)) ?_
          rintro e w2 ⟨⟨n2, c2, q2, rfl, rfl, h2⟩, hb2⟩
          have hB2 : Below w.heap.size w w2 := hb1.trans (hb2.mono hb1.size)
          clear hb2 HIB HIE HSh HB0
          by_cases hcb : c2 = 0
          · subst hcb
            obtain ⟨rfl, rfl⟩ := h2 rfl
            have hRe : R = (tr (n2 != 0), 0) := by rw [HRr.out]; simp [hor]
            have HRe := hide hRe
            clear HRr hRe h2
            go_wp2_with fail
            refine (doTwo_or t 0 n2 _ hor).mono ?_
            rintro e w3 ⟨rfl, rfl⟩
            go_wp2_with fail
            exact bodyPost_ret (v := .tuple #[.int .i64 (tr (n2 != 0)), .int .i64 0, .int .i64 (PB : Int)]) (by simp [results, Tryd.results105, go_sem]) rfl ⟨⟨_, _, _, rfl, by rw [HRe.out], fun _ => ⟨by rw [HRe.out], rfl⟩⟩, hB2⟩
          · have hRe : R = (0, c2) := by rw [HRr.out]; simp [hor, hcb]
            have HRe := hide hRe
            have hcb1 : (c2 == 0) = false := by simpa using hcb
            have hcb2 : (c2 != 0) = true := by simp [hcb]
            clear HRr hRe h2
            go_wp2_with fail
            exact bodyPost_ret (v := .tuple #[.int .i64 0, .int .i64 c2, .int .i64 q2]) (by simp [results, Tryd.results105, go_sem]) rfl ⟨⟨_, _, _, rfl, by rw [HRe.out], fun h => absurd h hcb⟩, hB2⟩
        · have hnb : (n1 == 0) = false := by simpa using hn
          have hnb' : (n1 != 0) = true := by simp [hn]
          have hRe : R = (1, 0) := by rw [HRr.out]; simp [hor, hn]
          subst hRe
          clear HRr HIB
          go_wp2_with fail
          go_region_held3 (fun w' => w'.cell? ⟨g, 0, none⟩ = some (.slice (some ⟨bb, o, none⟩) l.length ce)) (go_keep)
            (first
              | (go_at_call 104; (with_reducible refine Calls.mono (HSh.out _ _) ?_); rintro e w' ⟨rfl, rfl⟩)
              | (go_at_call 137; (with_reducible refine Calls.mono (HIE.out _ (belowDrew' (Below.refl _ _))) ?_); rintro e w5 ⟨rfl, hb5⟩; have HB5 := hide (HB0.out.trans (hb5.mono HB0.out.size)); have f0 := (hb5.cell (p := ⟨g, 0, none⟩) hgl1).trans d0; clear hb5))
          all_goals
            go_wp2_with fail
            exact bodyPost_ret (v := .tuple #[.int .i64 1, .int .i64 0, .int .i64 (PB : Int)]) (by simp [results, Tryd.results105, go_sem, tr]) rfl ⟨⟨1, 0, _, rfl, rfl, fun _ => ⟨rfl, rfl⟩⟩, HB5.out⟩
      · have hand' : (t.toList == [38, 38]) = false := by simpa using hand
        have hor' : (t.toList == [124, 124]) = false := by simpa using hor
        go_wp2_with fail
        refine Calls.mono (HIB.out w1 (Below.refl _ _)) ?_
        rintro e w2 ⟨⟨n2, c2, q2, rfl, rfl, h2⟩, hb2⟩
        have hB2 : Below w.heap.size w w2 := hb1.trans (hb2.mono hb1.size)
        clear hb2 HIB HIE HSh HB0
        by_cases hcb : c2 = 0
        · subst hcb
          obtain ⟨rfl, rfl⟩ := h2 rfl
          have hRe : R = do2 t.toList n1 n2 := by rw [HRr.out]; simp [hand, hor]
          have HRe := hide hRe
          clear HRr hRe h2
          go_wp2_with fail
          refine (doTwo_other t n1 n2 _ hst hand hor hba hbb).mono ?_
          rintro e w3 ⟨rfl, rfl⟩
          go_wp2_with fail
          exact bodyPost_ret (v := .tuple #[.int .i64 (do2 t.toList n1 n2).1, .int .i64 (do2 t.toList n1 n2).2, .int .i64 (PB : Int)]) (by simp [results, Tryd.results105, go_sem]) rfl ⟨⟨_, _, _, rfl, by rw [HRe.out], fun _ => ⟨by rw [HRe.out], rfl⟩⟩, hB2⟩
        · have hRe : R = (0, c2) := by rw [HRr.out]; simp [hand, hor, hcb]
          have HRe := hide hRe
          have hcb1 : (c2 == 0) = false := by simpa using hcb
          have hcb2 : (c2 != 0) = true := by simp [hcb]
          clear HRr hRe h2
          go_wp2_with fail
          exact bodyPost_ret (v := .tuple #[.int .i64 0, .int .i64 c2, .int .i64 q2]) (by simp [results, Tryd.results105, go_sem]) rfl ⟨⟨_, _, _, rfl, by rw [HRe.out], fun h => absurd h hcb⟩, hB2⟩
  · have hRe : R = (0, c1) := by rw [HRr.out]; simp [hca]
    subst hRe
    have hcb : (c1 == 0) = false := by simpa using hca
    have hcb' : (c1 != 0) = true := by simp [hca]
    clear HRr IB IE h1
    go_wp2_with fail
    exact bodyPost_ret (v := .tuple #[.int .i64 0, .int .i64 c1, .int .i64 q1]) (by simp [results, Tryd.results105, go_sem]) rfl ⟨⟨0, c1, q1, rfl, rfl, fun h => absurd h hca⟩, hb1⟩

set_option maxRecDepth 20000 in
set_option maxHeartbeats 4000000 in
theorem numberAt_one (g : Nat) (ade adn adv : Option Addr) (ce cn cv : Nat) (l : List Xx) (ns : List ByteArray) (vs : List Int) (hl : l.length ≤ 1048576) (hv : ∀ v ∈ vs, bdB v = true) (hn : ns.length ≤ 20) (hnv : ns.length = vs.length) (e : E)
    (ih : ∀ k ∈ e.kids, NAGoal g ade adn adv ce cn cv l ns vs k) : NAGoal g ade adn adv ce cn cv l ns vs e := by
  intro hok p r w hE hd
  have hlen := drop_len hd (E.flat_pos _)
  have hd1 : l.drop p = e.head :: (fl e.kids ++ r) := by rw [hd, E.flat_kids]; simp
  obtain ⟨hp, hx⟩ := drop_lt hd1
  have hp' : (p : Int) < (l.length : Int) := by omega
  have c0 := hE.c0
  obtain ⟨bb, o, rfl, hbb0, p0, p1, p2⟩ := hE.row.tok (Below.refl _ _) hp
  rw [hx] at p0 p1 p2
  have HE := hide hE
  have hgl := hE.lt
  have HBa : Hid (∀ o : Obj, Below w.heap.size w (w.alloc o)) := hide (fun o => (Below.refl _ _).alloc (Nat.le_refl _) _)
  cases e with
  | leaf x =>
    obtain ⟨hg, hb0⟩ := hok
    have hk := behind_0 hg hb0
    have hhd : (E.leaf x).head = x := rfl
    rw [hhd] at p0 p1 p2
    have hev : ev ns vs (.leaf x) = if x.k = 1 then (x.n, 0) else lookN ns vs x.t := rfl
    unfold NOut
    rw [hev]
    have hfl : (E.leaf x).flat.length = 1 := rfl
    rw [hfl]
    have HC := hide (fun (w' : World) (hw' : Below w.heap.size w w') => numberOf_any w' g (some ⟨bb, o, none⟩) adn adv ce cn cv l ns vs (HE.out.below hw') hn hnv x.t)
    clear hE hd hd1 hx hhd hev hfl hg hb0 ih hlen
    obtain ⟨k, n, t⟩ := x
    simp only at *
    rcases hk with rfl | rfl
    · rw [if_pos rfl]
      clear HC
      go_enter Tryd.func62, Tryd.ntmps62
      go_wp2_with fail
      exact bodyPost_ret (v := .tuple #[.int .i64 n, .int .i64 0, .int .i64 ((p : Int) + 1)]) (by simp [results, Tryd.results62, go_sem]) rfl ⟨⟨_, _, _, rfl, rfl, fun _ => ⟨rfl, by omega⟩⟩, HBa.out _⟩
    · rw [if_neg (by decide)]
      obtain ⟨R, hR⟩ : ∃ R, R = lookN ns vs t := ⟨_, rfl⟩
      rw [← hR] at HC ⊢
      clear hR
      go_enter Tryd.func62, Tryd.ntmps62
      go_wp2_with fail
      refine Calls.mono (HC.out _ (HBa.out _)) ?_
      rintro e w1 ⟨rfl, hb1⟩
      have hB1 := (HBa.out (.cells #[.int .i64 2, .int .i64 n, .string t] 90)).trans (hb1.mono (HBa.out _).size)
      clear hb1 HC p0 p1 p2
      go_wp2_with fail
      exact bodyPost_ret (v := .tuple #[.int .i64 R.1, .int .i64 R.2, .int .i64 ((p : Int) + 1)]) (by simp [results, Tryd.results62, go_sem]) rfl ⟨⟨_, _, _, rfl, rfl, fun _ => ⟨rfl, by omega⟩⟩, hB1⟩
  | one x a =>
    obtain ⟨hg, hb1', hoa⟩ := hok
    have hk := behind_1 hb1'
    have hba := ev_bd (ns := ns) hv a hoa
    have hhd : (E.one x a).head = x := rfl
    rw [hhd] at p0 p1 p2
    have hev : ev ns vs (.one x a) = if (ev ns vs a).2 ≠ 0 then (0, (ev ns vs a).2) else if x.k = 3 then (-(ev ns vs a).1, 0) else (tr ((ev ns vs a).1 == 0), 0) := rfl
    have hda : l.drop (p + 1) = a.flat ++ r := by rw [← List.drop_drop, hd]; simp [E.flat]
    have hfl : (E.one x a).flat.length = a.flat.length + 1 := by simp [E.flat]
    have HIA := hide (fun (w' : World) (hw' : Below w.heap.size w w') => ih a (by simp [E.kids]) hoa (p + 1) r w' (HE.out.below hw') hda)
    unfold NOut at HIA ⊢
    rw [hev, hfl]
    obtain ⟨ra, hra⟩ : ∃ ra, ra = ev ns vs a := ⟨_, rfl⟩
    rw [← hra] at HIA hba ⊢
    obtain ⟨Fa, hFa⟩ : ∃ Fa, Fa = a.flat.length := ⟨_, rfl⟩
    rw [← hFa] at HIA ⊢
    clear hE hd hd1 hx hhd hev hg hb1' ih hda hfl hra hFa hlen
    obtain ⟨k, n, t⟩ := x
    obtain ⟨na, ca⟩ := ra
    simp only at *
    have hna := bdB_iff.1 hba
    obtain ⟨hna1, hna2⟩ := hna
    have hq : ((p + 1 + Fa : Nat) : Int) = ((p + (Fa + 1) : Nat) : Int) := by omega
    rw [hq] at HIA
    clear hq
    obtain ⟨PB, hPB⟩ : ∃ PB, PB = p + (Fa + 1) := ⟨_, rfl⟩
    rw [← hPB] at HIA ⊢
    clear hPB
    obtain ⟨R, hRd⟩ : ∃ R, R = (if ca ≠ 0 then (0, ca) else if k = 3 then (-na, 0) else (tr (na == 0), 0) : Int × Int) := ⟨_, rfl⟩
    rw [← hRd]
    have HRd := hide hRd
    clear hRd
    rcases hk with rfl | rfl
    · go_enter Tryd.func62, Tryd.ntmps62
      go_wp2_with fail
      refine Calls.mono (HIA.out _ (HBa.out _)) ?_
      rintro e w1 ⟨⟨n1, c1, q1, rfl, rfl, h1⟩, hb1⟩
      have hB1 := (HBa.out (.cells #[.int .i64 3, .int .i64 n, .string t] 90)).trans (hb1.mono (HBa.out _).size)
      clear hb1 HIA p0 p1 p2
      have H1 := hide h1
      clear h1
      go_wp2_with fail
      refine bodyPost_ret (v := .tuple #[.int .i64 (wrap64 (-n1)), .int .i64 c1, .int .i64 q1]) (by simp [results, Tryd.results62, go_sem]) rfl ⟨⟨_, _, _, rfl, ?_, fun h => ?_⟩, hB1⟩
      · rw [HRd.out]
        by_cases hc : c1 = 0
        · subst hc; rfl
        · rw [if_pos hc]
      · subst h
        obtain ⟨rfl, rfl⟩ := H1.out rfl
        refine ⟨?_, rfl⟩
        rw [HRd.out]
        exact IntWalk.wrap64_in _ ⟨by omega, by omega⟩
    · go_enter Tryd.func62, Tryd.ntmps62
      go_wp2_with fail
      refine Calls.mono (HIA.out _ (HBa.out _)) ?_
      rintro e w1 ⟨⟨n1, c1, q1, rfl, rfl, h1⟩, hb1⟩
      have hB1 := (HBa.out (.cells #[.int .i64 4, .int .i64 n, .string t] 90)).trans (hb1.mono (HBa.out _).size)
      clear hb1 HIA p0 p1 p2
      have H1 := hide h1
      clear h1
      go_wp2_with fail
      refine (oneIf_any _ _).mono ?_
      rintro e w2 ⟨rfl, rfl⟩
      go_wp2_with fail
      refine bodyPost_ret (v := .tuple #[.int .i64 (tr (n1 == 0)), .int .i64 c1, .int .i64 q1]) (by simp [results, Tryd.results62, go_sem]) rfl ⟨⟨_, _, _, rfl, ?_, fun h => ?_⟩, hB1⟩
      · rw [HRd.out]
        by_cases hc : c1 = 0
        · subst hc; rfl
        · rw [if_pos hc]
      · subst h
        obtain ⟨rfl, rfl⟩ := H1.out rfl
        refine ⟨?_, rfl⟩
        rw [HRd.out]
        rfl
  | two x a b =>
    have hk5 := behind_2 hok.2.1
    have hhd : (E.two x a b).head = x := rfl
    rw [hhd] at p0 p1 p2
    have HC := hide (fun (w' : World) (hw' : Below w.heap.size w w') => twoAt_any g (some ⟨bb, o, none⟩) adn adv ce cn cv l ns vs hl hv x a b (ih a (by simp [E.kids])) (ih b (by simp [E.kids])) hok p r w' (HE.out.below hw') hd)
    unfold NOut at HC ⊢
    obtain ⟨R, hR⟩ : ∃ R, R = ev ns vs (.two x a b) := ⟨_, rfl⟩
    rw [← hR] at HC ⊢
    obtain ⟨FL, hFL⟩ : ∃ FL, FL = (E.two x a b).flat.length := ⟨_, rfl⟩
    rw [← hFL] at HC ⊢
    clear hE hd hd1 hx hhd ih hR hFL hok hlen
    obtain ⟨k, n, t⟩ := x
    simp only at *
    subst hk5
    go_enter Tryd.func62, Tryd.ntmps62
    go_wp2_with fail
    refine Calls.mono (HC.out _ (HBa.out _)) ?_
    rintro e w1 ⟨⟨n1, c1, q1, rfl, h0, h1⟩, hb1⟩
    have hB1 := (HBa.out (.cells #[.int .i64 5, .int .i64 n, .string t] 90)).trans (hb1.mono (HBa.out _).size)
    have H1 := hide h1
    have H0 := hide h0
    clear hb1 HC p0 p1 p2 h1 h0
    go_wp2_with fail
    exact bodyPost_ret (v := .tuple #[.int .i64 n1, .int .i64 c1, .int .i64 q1]) (by simp [results, Tryd.results62, go_sem]) rfl ⟨⟨_, _, _, rfl, H0.out, H1.out⟩, hB1⟩

theorem numberAt_any (g : Nat) (ade adn adv : Option Addr) (ce cn cv : Nat) (l : List Xx) (ns : List ByteArray) (vs : List Int) (hl : l.length ≤ 1048576) (hv : ∀ v ∈ vs, bdB v = true) (hn : ns.length ≤ 20) (hnv : ns.length = vs.length) : ∀ e : E, NAGoal g ade adn adv ce cn cv l ns vs e :=
  E.rec_kids (numberAt_one g ade adn adv ce cn cv l ns vs hl hv hn hnv)
end Go.Proofs.YtjffignbiabmaaaDoor.W

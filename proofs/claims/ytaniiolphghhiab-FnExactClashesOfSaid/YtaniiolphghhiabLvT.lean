/-
  The specification's l12Out, l12In, l12Same. Conditions: a good flow; rows of names below 8. Written by wip/build/mk_lvt.py.
-/
import Derived.Test.YtaniiolphghhiabGrU
import Derived.Test.YtaniiolphghhiabLvR
import Derived.Test.YtaniiolphghhiabLvF
import Derived.Test.YtaniiolphghhiabLvO
import Derived.Test.YtaniiolphghhiabLvA
namespace Go.Proofs.Ytaniiolphghhiab.W
open Go.ChangeShapes Go.WideShapes Go.ChangeAt Go.RowKit Go.Joins
set_option linter.unusedVariables false
set_option linter.unusedSimpArgs false
set_option maxRecDepth 20000

set_option maxHeartbeats 1000000 in
theorem l1Has_i (v : Value) (l : List Int) (n : Int) (w : World) (h : IV w v l) :
    Calls Try.prog 57 #[v, .int .i64 n] w fun e w' => e = .returned (.bool (decide (n ∈ l))) ∧ w' = w := by
  obtain ⟨a1, c1, rfl, hr, hl⟩ := h
  have H1 := hide hr
  clear hr
  obtain ⟨R, hR⟩ : ∃ R, R = decide (n ∈ l) := ⟨_, rfl⟩
  rw [← hR]
  have HRR := hide hR
  clear hR
  go_enter Try.func57, Try.ntmps57
  go_wp2_with fail
  go_loopw [9] (fun i w' => ∃ j : Nat, j ≤ l.length ∧ i = .int .i64 j ∧ (∀ q (h : q < l.length), q < j → l[q] ≠ n) ∧ w' = w) (fun i _ => l.length - (intOf i).toNat)
  case atStart => exact ⟨0, by omega, rfl, by intros; omega, rfl⟩
  case round =>
    obtain ⟨j, hj, rfl, hall, rfl⟩ := hrel
    have HA := hide hall
    clear hall
    by_cases hlt : j < l.length
    · have hlt' : (j : Int) < (l.length : Int) := by omega
      obtain ⟨g1, o1, rfl, hb1, p1⟩ := IRow.iat H1.out (Below.refl _ _) hlt
      have hmem := List.getElem_mem hlt
      have HM := hide hmem
      clear hmem
      by_cases hx : l[j] = n
      · have hr : R = true := by rw [HRR.out, decide_eq_true_eq]; exact hx ▸ HM.out
        rw [hx] at p1
        go_wp2_with fail
        go_ret
        exact ⟨ret_bool hr.symm, rfl⟩
      · have hA2 : ∀ q (h : q < l.length), q < j + 1 → l[q] ≠ n := fun q h hq => by
          by_cases e : q = j
          · subst e; exact hx
          · exact HA.out q h (by omega)
        have HA2 := hide hA2
        obtain ⟨x, hxx⟩ : ∃ x, x = l[j] := ⟨_, rfl⟩
        rw [← hxx] at p1 hx
        have hxb : (x == n) = false := by simpa using hx
        clear hxx hA2 HM
        go_wp2_with fail
        exact ⟨⟨j + 1, by omega, by go_num, HA2.out, trivial⟩, by simp [intOf]; omega⟩
    · have hr : R = false := by
        rw [HRR.out, decide_eq_false_iff_not]
        intro hm
        obtain ⟨q, hq, e⟩ := List.getElem_of_mem hm
        exact HA.out q hq (by omega) e
      go_wp2_with fail
      go_ret
      exact ⟨ret_bool hr.symm, rfl⟩

/-- The first i of r put to b. -/
def pk (b r : List Int) (i : Nat) : List Int := lst (fun n => hb b n || hb (r.take i) n) 8
theorem pk_zero {b : List Int} (h : R8 b) (r : List Int) : pk b r 0 = b := by
  unfold pk
  refine (lst_congr (fun n _ => ?_)).trans (r8_lst h)
  simp [hb]
theorem pk_succ (b r : List Int) (hr : R8 r) (i : Nat) (h : i < r.length) : putL (pk b r i) r[i] = pk b r (i + 1) := by
  have h8 := hr.2 _ (List.getElem_mem h)
  obtain ⟨x, hx⟩ : ∃ x : Nat, r[i] = (x : Int) := ⟨r[i].toNat, by rw [Int.toNat_of_nonneg h8.1]⟩
  rw [hx]
  unfold pk
  rw [putL_lst (by omega)]
  refine lst_congr (fun n _ => ?_)
  rw [Bool.eq_iff_iff]
  simp only [Bool.or_eq_true, hb_iff, decide_eq_true_eq]
  rw [List.take_add_one, List.getElem?_eq_getElem h, hx, List.mem_append]
  simp only [Option.toList_some, List.mem_singleton]
  rw [or_assoc]
  exact or_congr_right (or_congr_right ⟨fun e => by omega, fun e => by omega⟩)
theorem pk_all (b r : List Int) : pk b r r.length = orL b r := by unfold pk orL; rw [List.take_length]
theorem pk_len (b r : List Int) (i : Nat) : (pk b r i).length ≤ 8 := lst_len _ _

theorem QV.pv {w w' : World} {ad : Option Addr} {L : List (List Int)} (h : QRow w ad L) (hb : Below w.heap.size w w') {i : Nat} (hi : i < L.length) :
    ∃ b o a c, ad = some ⟨b, o, none⟩ ∧ w'.cell? ⟨b, o + i, none⟩ = some (.slice a (row L i).length c) ∧ IRow w' a (row L i) ∧ (row L i).length ≤ c := by
  obtain ⟨b, o, v, rfl, -, p, a, c, rfl, r, k⟩ := QRow.at h hb hi
  rw [row_at hi]
  exact ⟨b, o, a, c, rfl, p, r, k⟩

set_option maxHeartbeats 8000000 in
theorem l12Out_any (v vin : Value) (D : List (List Int)) (n : Nat) (F L : List (List Int)) (k : Nat) (w : World) (h : FRow w v D n F) (hg : GG D) (hin : QV w vin L) (hL : L.length = D.length) (k1 : ∀ k, R8 (row L k)) (hk : k < D.length) :
    Calls Try.prog 56 #[v, vin, .int .i64 (k : Int)] w fun e w' => ∃ v', e = .returned v' ∧ ON w' w.heap.size v' (ou D L k) ∧ Below w.heap.size w w' := by
  obtain ⟨ad, cg, bd, bc, rfl, hR, hq, hlc, -, -, -, -⟩ := h
  obtain ⟨ai, ci, rfl, hI, -, hci⟩ := hin
  have hB0 : Below w.heap.size w (w.alloc (.cells #[.slice ad D.length cg, .slice bd n bc] 34)) := (Below.refl _ _).alloc (Nat.le_refl _) _
  have HX := hide (Bx.new w #[.slice ad D.length cg, .slice bd n bc] 34)
  have HI := hide hI
  have HG := hide hg
  have K1 := hide k1
  have hd12 : D.length ≤ 12 := hg.2.1
  obtain ⟨bg, og, ag, dg, rfl, pg, rg, -⟩ := QV.pv hR hB0 hk
  have hris : RisL (row D k) D.length := by rw [row_at hk]; exact hg.2.2 k hk
  obtain ⟨nd, hnd⟩ : ∃ nd, nd = D.length := ⟨_, rfl⟩
  rw [← hnd] at HX hB0 hd12 hk hris pg rg
  rw [← hnd]
  have HLn : Hid (L.length = nd) := hide (by rw [hL, hnd])
  obtain ⟨l, hl⟩ : ∃ l, l = row D k := ⟨_, rfl⟩
  rw [← hl] at hris pg rg
  have HRis := hide hris
  have hm12 : l.length ≤ 12 := by have := hris.len; omega
  obtain ⟨m0, hm0⟩ : ∃ m0, m0 = l.length := ⟨_, rfl⟩
  rw [← hm0] at pg hm12
  have HM0 := hide hm0
  have HE : Hid (ouM L l m0 = ou D L k) := hide (by rw [hm0, hl]; exact ouM_all D L k)
  obtain ⟨nl, hnl⟩ : ∃ nl, nl = L.length := ⟨_, rfl⟩
  rw [← hnl] at HLn hci
  rw [← hnl]
  have HNl := hide hnl
  obtain ⟨W1, hW1⟩ : ∃ W1, W1 = w.alloc (.cells #[.slice (some ⟨bg, og, none⟩) nd cg, .slice bd n bc] 34) := ⟨_, rfl⟩
  obtain ⟨X, hX⟩ : ∃ X, X = w.heap.size := ⟨_, rfl⟩
  rw [← hW1] at HX hB0 pg rg
  rw [← hX] at HX
  have hXe := hide hX
  have hk' : (k : Int) < (nd : Int) := by omega
  have hk0 : (0 : Int) ≤ (k : Int) := by omega
  have HRg := hide rg
  have HB1 := hide hB0
  clear hR hg hI k1 hq hlc hnd hL hris hm0 hl hnl rg
  go_enter Try.func56, Try.ntmps56
  go_upto_region 2 with fail
  rw [← hW1]
  rw [← hX]
  clear hW1 hX
  have cX := HX.out.c
  go_wp2_with fail
  clear cX pg hB0
  go_loopw [7, 19] (fun v i w' => ∃ (m : Nat), m ≤ m0 ∧ i = .int .i64 m ∧ ON w' w.heap.size v (ouM L l m) ∧ Below W1.heap.size W1 w') (fun _ i _ => m0 - (intOf i).toNat)
  case atStart => exact ⟨0, by omega, rfl, by rw [ouM_zero]; exact World.ownsRow_nil _ _ _ _, Below.refl _ _⟩
  case round =>
    obtain ⟨m, hm, rfl, hv, hB⟩ := hrel
    have HV := hide hv
    have HB := hide hB
    obtain ⟨av, cv, rfl⟩ := own_form hv
    clear hv hB
    by_cases hlm : m < m0
    · have hlm' : (m : Int) < (m0 : Int) := by omega
      have hml : m < l.length := by rw [← HM0.out]; exact hlm
      obtain ⟨b1, o1, rfl, hb1, p1⟩ := IRow.iat HRg.out HB.out hml
      have hxb := HRis.out m hml
      obtain ⟨x, hx⟩ : ∃ x : Nat, l[m] = (x : Int) := ⟨l[m].toNat, by rw [Int.toNat_of_nonneg hxb.1]⟩
      rw [hx] at p1 hxb
      have hxn : x < nl := by have := HLn.out; omega
      have hxn' : (x : Int) < (nl : Int) := by omega
      have hx0 : (0 : Int) ≤ (x : Int) := by omega
      obtain ⟨bx, ox, ax, cx, rfl, px, rx, -⟩ := QV.pv HI.out (HB1.out.trans (HB.out.mono HB1.out.size)) (i := x) (by rw [← HNl.out]; exact hxn)
      have R8x := K1.out x
      have he : orL (ouM L l m) (row L x) = ouM L l (m + 1) := by have := ouM_succ L l m hml; rw [hx] at this; exact this
      have HEm := hide he
      obtain ⟨r, hr⟩ : ∃ r, r = row L x := ⟨_, rfl⟩
      rw [← hr] at px rx R8x HEm
      have hr8 := r8_len R8x
      obtain ⟨n0, hn0⟩ : ∃ n0, n0 = r.length := ⟨_, rfl⟩
      rw [← hn0] at px hr8
      have HN0 := hide hn0
      have HRx := hide rx
      have HR8 := hide R8x
      obtain ⟨bm, hbm⟩ : ∃ bm, bm = ouM L l m := ⟨_, rfl⟩
      rw [← hbm] at HV HEm ⊢
      have HBm : Hid (R8 bm) := hide (by rw [hbm]; exact lst_r8 _)
      clear he hr hn0 rx R8x hbm hxb hb1
      go_wp2_with fail
      clear p1 px
      go_loopw [7, 28] (fun v i w' => ∃ (q : Nat), q ≤ n0 ∧ i = .int .i64 q ∧ ON w' w.heap.size v (pk bm r q) ∧ Below wr.heap.size wr w') (fun _ i _ => n0 - (intOf i).toNat)
      case atStart => exact ⟨0, by omega, rfl, by rw [pk_zero HBm.out]; exact HV.out, Below.refl _ _⟩
      case round =>
        clear HV
        obtain ⟨q, hq, rfl, hv, hB2⟩ := hrel
        have HV := hide hv
        have HB2 := hide hB2
        obtain ⟨av, cv, rfl⟩ := own_form hv
        clear hB2
        by_cases hlq : q < n0
        · have hlq' : (q : Int) < (n0 : Int) := by omega
          have hql : q < r.length := by rw [← HN0.out]; exact hlq
          obtain ⟨b2, o2, rfl, hb2, p2⟩ := IRow.iat HRx.out HB2.out hql
          have HPu := hide (l1PutO_any (.slice av (pk bm r q).length cv) (pk bm r q) r[q] _ hv.nv (by have := pk_len bm r q; omega))
          rw [pk_succ bm r HR8.out q hql] at HPu
          obtain ⟨y, hy⟩ : ∃ y, y = r[q] := ⟨_, rfl⟩
          rw [← hy] at p2 HPu
          obtain ⟨nk, hnk⟩ : ∃ nk, nk = (pk bm r q).length := ⟨_, rfl⟩
          rw [← hnk] at HPu HV ⊢
          clear hv hy hnk hb2
          go_wp2_with fail
          refine Calls.mono HPu.out ?_
          rintro e w2 ⟨v2, rfl, hv2, hb⟩
          have HV2 := hide (ON.put HV.out hb (Nat.le_trans HB1.out.size (Nat.le_trans HB.out.size HB2.out.size)) hv2)
          have HB3 := hide (HB2.out.trans (hb.mono HB2.out.size))
          obtain ⟨av2, cv2, rfl⟩ := own_form HV2.out
          clear hv2 hb HPu p2 HV
          go_wp2_with fail
          go_roundw
          case rel => exact ⟨q + 1, by omega, by go_num, HV2.out, HB3.out⟩
          case measure => simp [intOf]; omega
        · obtain rfl : q = n0 := by omega
          have HPa : Hid (pk bm r q = ouM L l (m + 1)) := hide (by rw [HN0.out, pk_all, HEm.out])
          have HVe : Hid (ON wr w.heap.size (.slice av (pk bm r q).length cv) (ouM L l (m + 1))) := hide (by rw [← HPa.out]; exact HV.out)
          have HB3 := hide (HB.out.trans (HB2.out.mono HB.out.size))
          clear hv
          go_wp2_with fail
          go_roundw
          case rel => exact ⟨m + 1, by omega, by go_num, HVe.out, HB3.out⟩
          case measure => simp [intOf]; omega
    · obtain rfl : m = m0 := by omega
      have HVe : Hid (ON wr w.heap.size (.slice av (ouM L l m).length cv) (ou D L k)) := hide (by rw [← HE.out]; exact HV.out)
      go_wp2_with fail
      go_ret
      exact ⟨_, rfl, HVe.out, HB1.out.trans (HB.out.mono HB1.out.size)⟩

/-- What a block needs, when the first i names ahead have been looked at. -/
def nk (us ss o : List Int) (i : Nat) : List Int := lst (fun n => hb us n || (hb (o.take i) n && !hb ss n)) 8
theorem nk_zero {us : List Int} (h : R8 us) (ss o : List Int) : nk us ss o 0 = us := by
  unfold nk
  refine (lst_congr (fun n _ => ?_)).trans (r8_lst h)
  simp [hb]
theorem nk_put (us ss o : List Int) (ho : R8 o) (i : Nat) (h : i < o.length) (hs : o[i] ∉ ss) : putL (nk us ss o i) o[i] = nk us ss o (i + 1) := by
  have h8 := ho.2 _ (List.getElem_mem h)
  obtain ⟨x, hx⟩ : ∃ x : Nat, o[i] = (x : Int) := ⟨o[i].toNat, by rw [Int.toNat_of_nonneg h8.1]⟩
  rw [hx] at hs ⊢
  unfold nk
  rw [putL_lst (by omega)]
  refine lst_congr (fun n _ => ?_)
  rw [Bool.eq_iff_iff]
  simp only [Bool.or_eq_true, Bool.and_eq_true, Bool.not_eq_true', hb_iff, decide_eq_true_eq]
  rw [List.take_add_one, List.getElem?_eq_getElem h, hx, List.mem_append]
  simp only [Option.toList_some, List.mem_singleton]
  constructor
  · rintro ((h1 | ⟨h1, h2⟩) | rfl)
    · exact .inl h1
    · exact .inr ⟨.inl h1, h2⟩
    · exact .inr ⟨.inr rfl, by simpa [hb] using hs⟩
  · rintro (h1 | ⟨h1 | h1, h2⟩)
    · exact .inl (.inl h1)
    · exact .inl (.inr ⟨h1, h2⟩)
    · exact .inr (by omega)
theorem nk_skip (us ss o : List Int) (ho : R8 o) (i : Nat) (h : i < o.length) (hs : o[i] ∈ ss) : nk us ss o (i + 1) = nk us ss o i := by
  have h8 := ho.2 _ (List.getElem_mem h)
  obtain ⟨x, hx⟩ : ∃ x : Nat, o[i] = (x : Int) := ⟨o[i].toNat, by rw [Int.toNat_of_nonneg h8.1]⟩
  rw [hx] at hs
  unfold nk
  refine lst_congr (fun n _ => ?_)
  rw [Bool.eq_iff_iff]
  simp only [Bool.or_eq_true, Bool.and_eq_true, Bool.not_eq_true', hb_iff]
  rw [List.take_add_one, List.getElem?_eq_getElem h, hx, List.mem_append]
  simp only [Option.toList_some, List.mem_singleton]
  constructor
  · rintro (h1 | ⟨h1 | h1, h2⟩)
    · exact .inl h1
    · exact .inr ⟨h1, h2⟩
    · obtain rfl : n = x := by omega
      simp [hb, hs] at h2
  · rintro (h1 | ⟨h1, h2⟩)
    · exact .inl h1
    · exact .inr ⟨.inl h1, h2⟩
theorem nk_len (us ss o : List Int) (i : Nat) : (nk us ss o i).length ≤ 8 := lst_len _ _
theorem nk_all (D F L : List (List Int)) (k : Nat) : nk (fu F k) (fs F k) (ou D L k) (ou D L k).length = ni D F L k := by
  unfold nk ni
  rw [List.take_length]
  refine lst_congr (fun n hn => ?_)
  unfold niB ou
  rw [hb_lst]
  simp [hn]

theorem IV.pt {w : World} {v : Value} {l : List Int} (h : IV w v l) (hne : l ≠ []) : PtI w v l.length (ic l) := by
  obtain ⟨ad, c, rfl, hr, -⟩ := h
  rcases hr with h0 | ⟨b, o, rfl, -, h2⟩
  · exact absurd h0 hne
  · refine .inr ⟨_, c, rfl, by rw [ic_len, Nat.mul_one], fun q x hx => ?_, ic_one _⟩
    have hq : q < l.length := by have := (List.getElem?_eq_some_iff.1 hx).1; rwa [ic_len] at this
    rw [ic_at l q hq] at hx
    have := h2 q hq 0 (by omega)
    rw [Nat.mul_one, Nat.add_zero] at this
    rw [Addr.add_lit, this, ← hx]
/-- append([]int{}, x...): at any row x. -/
theorem wpList_append_e {w : World} {ops : Array Oper} {rest : List Oper} {o : Oper} {a : Act} {Q : Exit → Act → World → Prop} (hgd : o.guard = none) (s x : Operand)
    (ho : o.op = .call { callee := .builtin .append, args := #[s, x], argTypes := #[45, 45] })
    (base g : Nat) (hs : a.eval s = .slice (some ⟨g, 0, none⟩) 0 0) (hown : w.ownsRow base 3 1 (.slice (some ⟨g, 0, none⟩) 0 0) 0 []) (u : Value) (l : List Int) (hx : a.eval x = u) (hu : IV w u l) (hbase : base ≤ w.heap.size)
    (h : ∀ v' w', w'.ownsRow base 3 1 v' l.length (ic l) → w.grownBy w' (some g) → wpList Try.prog ops Q rest (a.put o.dst v') w') : wpList Try.prog ops Q (o :: rest) a w := by
  by_cases h0 : l = []
  · subst h0
    obtain ⟨i0, hi0, hzz⟩ := Option.map_eq_some_iff.1 infoInt1
    simp only [Prod.mk.injEq] at hzz
    obtain ⟨hz0, hz1, hz2⟩ := hzz
    obtain ⟨ad, c, rfl, -, -⟩ := hu
    have hrun : (Builtin.append_ #[45, 45] o.type #[.slice (some ⟨g, 0, none⟩) 0 0, .slice ad ([] : List Int).length c]).run Try.prog w = .ok (.slice (some ⟨g, 0, none⟩) 0 0) w := by
      cases ad <;> simp [Builtin.append_, run_underlying Try.underlying45, sizeOf, typeInfo, hi0, hz1, Builtin.lenOf, Builtin.firstCells, loadCells, loadCellsFrom, storeCells]
    refine wpList_plain hgd fun K hK => ?_
    unfold Oper.wp execOp
    simp only [ho, resolve, invoke, builtin, Sem.run_bind, Sem.run_pure, Result.andThen_ok, List.map_toArray, List.map_cons, List.map_nil, hs, hx, hrun]
    exact hK _ _ (h _ w hown (World.grownBy.refl _ _))
  · refine wpList_append_i hgd s x ho base _ 0 [] hs hown u l.length (ic l) hx (hu.pt h0) (by obtain ⟨-, -, -, -, hl⟩ := hu; omega) hbase (fun v' w' h1 h2 => h v' w' ?_ h2)
    rw [Nat.zero_add, List.nil_append] at h1
    exact h1

set_option maxHeartbeats 8000000 in
theorem l12In_any (v vin : Value) (D : List (List Int)) (n : Nat) (F L : List (List Int)) (k : Nat) (w : World) (h : FRow w v D n F) (hf : GF D F) (hin : QV w vin L) (hL : L.length = D.length) (k1 : ∀ k, R8 (row L k)) (hk : k < D.length) :
    Calls Try.prog 37 #[v, vin, .int .i64 (k : Int)] w fun e w' => ∃ v', e = .returned v' ∧ NV w' v' (ni D F L k) ∧ Below w.heap.size w w' := by
  have HO := hide (fun (w' : World) (hb : Below w.heap.size w w') => l12Out_any v vin D n F L k w' (h.below hb) hf.1 (hin.below hb) hL k1 hk)
  obtain ⟨ad, cg, bd, bc, rfl, -, -, -, hRF, hsm, hnb, hF⟩ := h
  obtain ⟨ai, ci, rfl, -, -, -⟩ := hin
  have hnD : n = D.length := by have := hf.2.1; omega
  have hB0 : Below w.heap.size w (w.alloc (.cells #[.slice ad D.length cg, .slice bd n bc] 34)) := (Below.refl _ _).alloc (Nat.le_refl _) _
  have HX := hide (Bx.new w #[.slice ad D.length cg, .slice bd n bc] 34)
  have hkn : k < n := by omega
  obtain ⟨bg, og, a0, c0, a1, c1, rfl, -, p0, p1, r0, r1, -, -⟩ := QRow.two hRF hB0 hF hkn
  have R0 : R8 (fu F k) := hf.r8 (2 * k)
  have R1 : R8 (fs F k) := hf.r8 (2 * k + 1)
  have Ro : R8 (ou D L k) := lst_r8 _
  have HE : Hid (nk (fu F k) (fs F k) (ou D L k) (ou D L k).length = ni D F L k) := hide (nk_all D F L k)
  obtain ⟨us, hus⟩ : ∃ us, us = fu F k := ⟨_, rfl⟩
  obtain ⟨ss, hss⟩ : ∃ ss, ss = fs F k := ⟨_, rfl⟩
  obtain ⟨oo, hoo⟩ : ∃ oo, oo = ou D L k := ⟨_, rfl⟩
  obtain ⟨nn, hnn⟩ : ∃ nn, nn = ni D F L k := ⟨_, rfl⟩
  obtain ⟨nd, hnd⟩ : ∃ nd, nd = D.length := ⟨_, rfl⟩
  obtain ⟨nl, hnl⟩ : ∃ nl, nl = L.length := ⟨_, rfl⟩
  rw [← hus] at p0 r0 R0 HE
  rw [← hss] at p1 r1 R1 HE
  rw [← hoo] at Ro HE HO
  rw [← hnn] at HE
  rw [← hnd] at HX hB0 p0 p1 r0 r1 HO
  rw [← hnl] at HO
  rw [← hnn, ← hnd, ← hnl]
  have hu8 := r8_len R0
  have hs8 := r8_len R1
  have ho8 := r8_len Ro
  obtain ⟨m0, hm0⟩ : ∃ m, m = us.length := ⟨_, rfl⟩
  obtain ⟨m1, hm1⟩ : ∃ m, m = ss.length := ⟨_, rfl⟩
  rw [← hm0] at p0 hu8
  rw [← hm1] at p1 hs8
  have HM0 := hide hm0
  have HM1 := hide hm1
  obtain ⟨W1, hW1⟩ : ∃ W1, W1 = w.alloc (.cells #[.slice ad nd cg, .slice (some ⟨bg, og, none⟩) n bc] 34) := ⟨_, rfl⟩
  obtain ⟨X, hX⟩ : ∃ X, X = w.heap.size := ⟨_, rfl⟩
  rw [← hW1] at HX hB0 p0 p1 r0 r1
  rw [← hX] at HX
  have hk' : (k : Int) < (n : Int) := by omega
  have hk0 : (0 : Int) ≤ (k : Int) := by omega
  have hbg : bg < W1.heap.size := World.block_lt_of_cell? _ _ p0
  have HIs := hide (show IV W1 (.slice a1 m1 c1) ss by rw [hm1]; exact ⟨_, _, rfl, r1, by omega⟩)
  have HR0 := hide r0
  have HB1 := hide hB0
  have H8 := hide R0
  have H8o := hide Ro
  clear hRF hf k1 hL hsm hnb hF hus hss hoo hnn hnd hnl hm0 hm1 r0 r1 R0 R1 Ro hnD hk
  go_enter Try.func37, Try.ntmps37
  go_upto_region 1 with fail
  rw [← hW1]
  rw [← hX]
  clear hW1 hX
  have hb12 : Below W1.heap.size W1 (W1.alloc (.cells #[] 3)) := (Below.refl _ _).alloc (Nat.le_refl _) _
  have HO0 : Hid ((W1.alloc (.cells #[] 3)).ownsRow W1.heap.size 3 1 (.slice (some ⟨W1.heap.size, 0, none⟩) 0 0) 0 []) := hide ⟨rfl, .inr ⟨W1.heap.size, 0, #[], rfl, Nat.le_refl _, heap_alloc_new W1 _, Nat.le_refl _, by omega, rfl, rfl⟩⟩
  have HXa := hide (HX.out.below hb12 HX.out.lt)
  have HIu := hide (show IV (W1.alloc (.cells #[] 3)) (.slice a0 m0 c0) us by rw [HM0.out]; exact ⟨_, _, rfl, RRow.below HR0.out hb12, by have := HM0.out; omega⟩)
  have Hb12 := hide hb12
  have Hsz : Hid (W1.heap.size ≤ (W1.alloc (.cells #[] 3)).heap.size) := hide hb12.size
  have cX : ∀ (ob : Obj) (o : Nat), (W1.alloc ob).cell? ⟨X, o, none⟩ = #[Value.slice ad nd cg, .slice (some ⟨bg, og, none⟩) n bc][o]? := fun ob o => (HX.out.alloc ob).c o
  have p0' : ∀ (ob : Obj), (W1.alloc ob).cell? ⟨bg, og + k * 2, none⟩ = some (.slice a0 m0 c0) := fun ob => (((Below.refl W1.heap.size W1).alloc (Nat.le_refl _) ob).cell (p := ⟨bg, og + k * 2, none⟩) hbg).trans p0
  clear hb12 hB0
  go_wp2_with (at_builtin; refine wpList_append_e rfl _ _ rfl W1.heap.size W1.heap.size rfl HO0.out _ us rfl HIu.out Hsz.out ?_)
  intro v1 w1 ho1 hg1
  have hb1 : Below W1.heap.size W1 w1 := Hb12.out.trans ((Below.refl _ _).grown hg1 Hsz.out (fun k hk => by cases hk; exact Nat.le_refl _))
  have HV0 := hide (NV.ofOwn ho1 rfl)
  have HX1 := hide (HX.out.below hb1 HX.out.lt)
  have Hb1 := hide hb1
  have HBt := hide (HB1.out.trans (hb1.mono HB1.out.size))
  obtain ⟨av1, cv1, rfl⟩ := own_form ho1
  clear cX p0' ho1 hg1 hb1 HO0 HXa HIu Hsz Hb12
  have cX := HX1.out.c
  go_wp2_with fail
  refine Calls.mono (HO.out _ HBt.out) ?_
  rintro e w2 ⟨vo, rfl, hvo1, hb⟩
  have hvo := hvo1.nv
  clear hvo1
  have HVo := hide hvo
  have HV1 := hide (HV0.out.below hb)
  have HX2 := hide (HX1.out.below hb HX1.out.lt)
  have Hb2 := hide (Hb1.out.trans (hb.mono Hb1.out.size))
  obtain ⟨avo, cvo, rfl, -⟩ := hvo.form
  obtain ⟨q0, hq0⟩ : ∃ q0, q0 = oo.length := ⟨_, rfl⟩
  rw [← hq0] at HVo HE ho8 ⊢
  have HQ0 := hide hq0
  clear cX hvo hb HO HV0 HX1 Hb1 HBt hq0
  go_wp2_with fail
  go_loopw [7, 23] (fun v i w' => ∃ (q : Nat), q ≤ q0 ∧ i = .int .i64 q ∧ NV w' v (nk us ss oo q) ∧ Bx w' X #[.slice ad nd cg, .slice (some ⟨bg, og, none⟩) n bc] 34 ∧ Below w2.heap.size w2 w') (fun _ i _ => q0 - (intOf i).toNat)
  case atStart => exact ⟨0, by omega, rfl, by rw [nk_zero H8.out]; exact HV1.out, HX2.out, Below.refl _ _⟩
  case round =>
    clear HV1 HX2
    obtain ⟨q, hq, rfl, hv, hx, hB⟩ := hrel
    have HV := hide hv
    have HB := hide hB
    have HX := hide hx
    obtain ⟨av, cv, rfl, -⟩ := hv.form
    clear hx hB
    by_cases hlq : q < q0
    · have hlq' : (q : Int) < (q0 : Int) := by omega
      have hql : q < oo.length := by rw [← HQ0.out]; exact hlq
      have hvo : ∃ b o, avo = some ⟨b, o, none⟩ ∧ wr.cell? ⟨b, o + q, none⟩ = some (.int .i64 oo[q]) := by
        have h1 := HVo.out
        rw [HQ0.out] at h1
        exact NV.at h1 HB.out hql
      obtain ⟨b2, o2, rfl, p2⟩ := hvo
      have hbw := Hb2.out.trans (HB.out.mono Hb2.out.size)
      have HHas := hide (l1Has_i (.slice a1 m1 c1) ss oo[q] wr (IV.below HIs.out hbw))
      have HPu := hide (fun (w' : World) (hb : Below wr.heap.size wr w') => l1Put_any (.slice av (nk us ss oo q).length cv) (nk us ss oo q) oo[q] w' (hv.below hb) (by have := nk_len us ss oo q; omega))
      have q1 : wr.cell? ⟨bg, og + k * 2 + 1, none⟩ = some (.slice a1 m1 c1) := (hbw.cell (p := ⟨bg, og + k * 2 + 1, none⟩) hbg).trans p1
      obtain ⟨nq, hnq⟩ : ∃ nq, nq = (nk us ss oo q).length := ⟨_, rfl⟩
      rw [← hnq] at HPu HV ⊢
      have cX := HX.out.c
      by_cases hin : oo[q] ∈ ss
      · have hsk := nk_skip us ss oo H8o.out q hql hin
        have hd : decide (oo[q] ∈ ss) = true := decide_eq_true hin
        rw [hd] at HHas
        have HVs : Hid (NV wr (.slice av nq cv) (nk us ss oo (q + 1))) := hide (by rw [hsk]; exact HV.out)
        obtain ⟨y, hy⟩ : ∃ y, y = oo[q] := ⟨_, rfl⟩
        rw [← hy] at p2 HHas
        clear hv hsk hd hin hy hnq hbw HPu
        go_wp2_with fail
        refine Calls.mono HHas.out ?_
        rintro e w3 ⟨rfl, hw⟩
        obtain rfl := hw.symm
        clear HHas p2 cX q1
        go_wp2_with fail
        go_roundw
        case rel => exact ⟨q + 1, by omega, by go_num, HVs.out, HX.out, HB.out⟩
        case measure => simp [intOf]; omega
      · have hd : decide (oo[q] ∈ ss) = false := decide_eq_false hin
        rw [hd] at HHas
        rw [nk_put us ss oo H8o.out q hql hin] at HPu
        obtain ⟨y, hy⟩ : ∃ y, y = oo[q] := ⟨_, rfl⟩
        rw [← hy] at p2 HHas HPu
        clear hv hd hin hy hnq hbw
        go_wp2_with fail
        refine Calls.mono HHas.out ?_
        rintro e w3 ⟨rfl, hw⟩
        obtain rfl := hw.symm
        clear HHas p2 cX q1
        go_wp2_with fail
        refine Calls.mono (HPu.out _ (Below.refl _ _)) ?_
        rintro e w4 ⟨v4, rfl, hv4, hb4⟩
        have HV4 := hide hv4
        have HB4 := hide (HB.out.trans (hb4.mono HB.out.size))
        have HX4 := hide (HX.out.below hb4 HX.out.lt)
        obtain ⟨av4, cv4, rfl, -⟩ := hv4.form
        clear hv4 hb4 HPu HV HX
        go_wp2_with fail
        go_roundw
        case rel => exact ⟨q + 1, by omega, by go_num, HV4.out, HX4.out, HB4.out⟩
        case measure => simp [intOf]; omega
    · obtain rfl : q = q0 := by omega
      have HVe : Hid (NV wr (.slice av (nk us ss oo q).length cv) nn) := hide (by rw [← HE.out]; exact HV.out)
      have HBe := hide (HB1.out.trans ((Hb2.out.trans (HB.out.mono Hb2.out.size)).mono HB1.out.size))
      clear hv
      go_wp2_with fail
      go_ret
      exact ⟨_, rfl, HVe.out, HBe.out⟩
end Go.Proofs.Ytaniiolphghhiab.W

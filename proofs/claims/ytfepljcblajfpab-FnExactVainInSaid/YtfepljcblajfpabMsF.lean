/-
  The text of rows, by the program: a contract of rowsKey. Conditions: at most eight rows of at most 1000 good cells.
-/
import Derived.Test.YtfepljcblajfpabMsE
import Derived.Laws.BytesString
namespace Go.Proofs.Ytfepljcblajfpab.W
open Go.ChangeShapes Go.WideShapes Go.ChangeAt Go.RowKit
set_option linter.unusedVariables false
set_option linter.unusedSimpArgs false

theorem wpList_append_z {P : Program} {ops : Array Oper} {rest : List Oper} {o : Oper} {a : Act} {w : World} {Q : Exit → Act → World → Prop} (hgd : o.guard = none) (d s : Operand) (dT sT : TypeId)
    (ho : o.op = .call { callee := .builtin .append, args := #[d, s], argTypes := #[dT, sT] }) {v u : Value} (hd : a.eval d = v) (hs : a.eval s = u) {v' : Value} {w' : World}
    (hr : (Builtin.append_ #[dT, sT] o.type #[v, u]).run P w = .ok v' w') (h : wpList P ops Q rest (a.put o.dst v') w') : wpList P ops Q (o :: rest) a w := by
  refine wpList_plain hgd fun K hK => ?_
  unfold Oper.wp execOp
  simp only [ho, resolve, invoke, builtin, Sem.run_bind, Sem.run_pure, Result.andThen_ok, List.map_toArray, List.map_cons, List.map_nil, hd, hs, hr]
  exact hK _ _ h

/-- Bytes as a string. -/
def kS (ns : List Nat) : ByteArray := ns.foldl (fun r n => r.push (UInt8.ofNat n)) ByteArray.empty
theorem kS_fold : ∀ (ns : List Nat) (s : ByteArray), (ns.foldl (fun r n => r.push (UInt8.ofNat n)) s).data.toList = s.data.toList ++ ns.map UInt8.ofNat
  | [], s => by simp
  | n :: ns, s => by
    rw [List.foldl_cons, kS_fold ns]
    simp [ByteArray.push]
theorem kS_data (ns : List Nat) : (kS ns).data.toList = ns.map UInt8.ofNat := by
  unfold kS
  rw [kS_fold]
  rfl
theorem kS_inj {a b : List Nat} (ha : ∀ n ∈ a, n < 256) (hb : ∀ n ∈ b, n < 256) (h : kS a = kS b) : a = b := by
  have h1 : a.map UInt8.ofNat = b.map UInt8.ofNat := by rw [← kS_data, ← kS_data, h]
  have h2 := congrArg (List.map UInt8.toNat) h1
  rw [List.map_map, List.map_map] at h2
  have e : ∀ l : List Nat, (∀ n ∈ l, n < 256) → l.map (UInt8.toNat ∘ UInt8.ofNat) = l := by
    intro l hl
    induction l with
    | nil => rfl
    | cons n l ih =>
      rw [List.map_cons, ih (fun m hm => hl m (by simp [hm]))]
      congr 1
      have := hl n (by simp)
      simp [Nat.mod_eq_of_lt this]
  rw [e a ha, e b hb] at h2
  exact h2
theorem kyL_app : ∀ (L L' : List (List Pt)), kyL (L ++ L') = kyL L ++ kyL L'
  | [], L' => rfl
  | l :: L, L' => by simp [kyL, kyL_app L L']
theorem kyL_succ {L : List (List Pt)} {i : Nat} (h : i < L.length) : kyL (L.take (i + 1)) = kyL (L.take i) ++ (L[i].map eC ++ [0]) := by
  rw [List.take_succ_eq_append_getElem h, kyL_app]; rfl
theorem eC_lt {D : List Int} (hd : D.length ≤ 4) {x : Pt} (h : goodC D x = true) : eC x < 256 ∧ (eC x : Int) = x.kd * 4 + x.con := by
  unfold eC; rcases good_kd h with g | g <;> omega
theorem kyL_lt {D : List Int} (hd : D.length ≤ 4) : ∀ {L : List (List Pt)}, (∀ l ∈ L, ∀ x ∈ l, goodC D x = true) → ∀ n ∈ kyL L, n < 256
  | [], _, n, hn => by cases hn
  | l :: L, h, n, hn => by
    simp only [kyL, List.mem_append, List.mem_map, List.mem_cons] at hn
    rcases hn with ⟨x, hx, rfl⟩ | rfl | hn
    · exact (eC_lt hd (h l (by simp) x hx)).1
    · omega
    · exact kyL_lt hd (fun m hm => h m (by simp [hm])) n hn
theorem kyL_len {L : List (List Pt)} (h : ∀ l ∈ L, l.length ≤ 1000) : (kyL L).length ≤ L.length * 1001 := by
  induction L with
  | nil => simp [kyL]
  | cons l L ih =>
    have := ih (fun x hx => h x (by simp [hx]))
    have := h l (by simp)
    simp [kyL]; omega

theorem infoU8 : (Try.prog.info? 5).map (fun i => (i.zero, i.size, i.bytes)) = some (some (.int .u8 0), 1, 1) := by kernel_rfl
def u8s (ns : List Nat) : List Value := ns.map (fun (n : Nat) => Value.int .u8 (n : Int))
theorem u8s_app (a b : List Nat) : u8s (a ++ b) = u8s a ++ u8s b := by simp [u8s]
theorem u8s_len (a : List Nat) : (u8s a).length = a.length := by simp [u8s]

/-- What a row of slices in a block reads. -/
def QAt (w : World) (G : Nat) (L : List (List Pt)) : Prop := G < w.heap.size ∧ ∀ i (h : i < L.length), ∃ v, w.cell? ⟨G, i, none⟩ = some v ∧ PV w v L[i]
theorem QAt.below {w w' : World} {G : Nat} {L : List (List Pt)} (h : QAt w G L) (hb : Below w.heap.size w w') : QAt w' G L :=
  ⟨Nat.lt_of_lt_of_le h.1 hb.size, fun i hi => by
    obtain ⟨v, h1, h2⟩ := h.2 i hi
    exact ⟨v, (hb.cell (p := ⟨G, i, none⟩) h.1).trans h1, h2.below hb⟩⟩

set_option maxRecDepth 20000 in
set_option maxHeartbeats 8000000 in
theorem rowsKey_any (D : List Int) (hd : D.length ≤ 4) (va v : Value) (l : List Pt) (L : List (List Pt)) (w : World) (ha : PV w va l) (hv : QV w v L) (h0 : L ≠ []) (h8 : L.length ≤ 8) (hl : ∀ x ∈ L ++ [l], x.length ≤ 1000) (hg : ∀ x ∈ L ++ [l], ∀ y ∈ x, goodC D y = true) :
    Calls Try.prog 47 #[va, v] w fun e w' => e = .returned (.string (kS (kyL (L ++ [l])))) ∧ Below w.heap.size w w' := by
  obtain ⟨ad, cap0, rfl, hR, hs, hcap⟩ := hv
  obtain ⟨b, o, rfl, hb, hRow⟩ : ∃ b o, ad = some ⟨b, o, none⟩ ∧ b < w.heap.size ∧ ∀ i (h : i < L.length), ∃ v, w.cell? ⟨b, o + i, none⟩ = some v ∧ PV w v L[i] := by
    rcases hR with h | h
    · exact absurd h h0
    · exact h
  haveI : Inhabited Value := ⟨.bool false⟩
  obtain ⟨F, hF⟩ := Go.Deep.choose_lt (α := Value) (n := L.length) (p := fun i v => w.cell? ⟨b, o + i, none⟩ = some v ∧ ∃ l, L[i]? = some l ∧ PV w v l) (fun i hi => by
    obtain ⟨v, h1, h2⟩ := hRow i hi
    exact ⟨v, h1, L[i], List.getElem?_eq_getElem hi, h2⟩)
  obtain ⟨vs, hvs⟩ : ∃ vs, vs = (List.range L.length).map F := ⟨_, rfl⟩
  have hvl : vs.length = L.length := by rw [hvs]; simp
  have hva1 : va.oneCell' = true := by obtain ⟨a1, c1, rfl, -, -⟩ := ha; rfl
  have hvs1 : ∀ u ∈ vs ++ [va], u.oneCell' = true := by
    intro u hu
    simp only [List.mem_append, List.mem_singleton] at hu
    rcases hu with hu | rfl
    · rw [hvs] at hu
      obtain ⟨i, hi, rfl⟩ := List.mem_map.1 hu
      obtain ⟨-, l1, -, a1, c1, e, -, -⟩ := hF i (List.mem_range.1 hi)
      rw [e]; rfl
    · exact hva1
  obtain ⟨i1, hi1, hy0, hy1, hy2⟩ := infoPartsT infoPtS
  obtain ⟨i0, hi0, hz0, hz1, hz2⟩ := infoPartsT infoU8
  have holds : ∀ (B : Obj) j u, vs[j]? = some u → (w.alloc B).cell? ((⟨b, o, none⟩ : Addr).add j) = some u := by
    intro B j u hu
    have hj : j < L.length := by
      have := (List.getElem?_eq_some_iff.1 hu).1
      rwa [hvl] at this
    rw [Addr.add_lit]
    have e1 : vs[j]? = some (F j) := by rw [hvs]; simp [hj]
    rw [e1] at hu
    simp only [Option.some.injEq] at hu
    rw [((Below.refl w.heap.size w).alloc (Nat.le_refl _) B).cell (p := ⟨b, o + j, none⟩) hb, (hF j hj).1, hu]
  obtain ⟨cap', w1, hrun, hQ1, hB1⟩ : ∃ cap' w', (Builtin.append_ #[33, 33] 33 #[.slice (some ⟨b, o, none⟩) L.length L.length, .slice (some ⟨w.heap.size, 0, none⟩) 1 1]).run Try.prog (w.alloc (.cells #[va] 28)) = .ok (.slice (some ⟨w.heap.size + 1, 0, none⟩) (L.length + 1) cap') w' ∧ QAt w' (w.heap.size + 1) (L ++ [l]) ∧ Below w.heap.size w w' := by
    have hr := run_append_grow (P := Try.prog) (w.alloc (.cells #[va] 28)) 33 33 28 i1 (.slice none 0 0) Try.underlying33 hi1 hy0 ⟨b, o, none⟩ L.length L.length vs (by rw [hy1, Nat.mul_one]; exact hvl) (holds _) ⟨w.heap.size, 0, none⟩ 1 1 [va] (by rw [hy1]; rfl) (slC_cells (heap_alloc_new w _)) (by omega) (by omega) (growslice_fits (by omega) (by rw [hy2]; omega))
    have hBw : ∀ (X : Obj), Below w.heap.size w ((w.alloc (.cells #[va] 28)).drew.alloc X) := fun X => (belowDrew8 ((Below.refl _ _).alloc (Nat.le_refl _) _)).alloc (by simp) _
    rw [show (w.alloc (.cells #[va] 28)).heap.size = w.heap.size + 1 by simp] at hr
    refine ⟨_, _, hr, ?_, hBw _⟩
    have hh := heap_alloc_new (w.alloc (.cells #[va] 28)).drew (.cells (vs.toArray ++ [va].toArray ++ Builtin.zeroCells (Value.slice none 0 0).cells (grownCap (w.alloc (.cells #[va] 28)) (L.length + 1) L.length 28 - (L.length + 1))) 28)
    rw [show (w.alloc (.cells #[va] 28)).drew.heap.size = w.heap.size + 1 by simp] at hh
    refine ⟨(Array.getElem?_eq_some_iff.1 hh).1, fun i hi => ?_⟩
    have hi' : i < L.length + 1 := by simpa using hi
    by_cases hil : i < L.length
    · obtain ⟨e1, l1, e2, e3⟩ := hF i hil
      rw [List.getElem?_eq_getElem hil] at e2
      simp only [Option.some.injEq] at e2
      refine ⟨F i, ?_, ?_⟩
      · rw [cell_of_blk hh, Array.getElem?_append_left (by simp [hvl]; omega), Array.getElem?_append_left (by simp [hvl]; omega), List.getElem?_toArray, hvs]
        simp [hil]
      · rw [List.getElem_append_left hil, e2]
        exact e3.below (hBw _)
    · obtain rfl : i = L.length := by omega
      refine ⟨va, ?_, ?_⟩
      · rw [cell_of_blk hh, Array.getElem?_append_left (by simp [hvl]), Array.getElem?_append_right (by simp [hvl])]
        simp [hvl]
      · rw [List.getElem_append_right (Nat.le_refl _)]
        simp only [Nat.sub_self, List.getElem_singleton]
        exact ha.below (hBw _)
  have HRun := hide hrun
  have HQ := hide hQ1
  have hG1 := hQ1.1
  have Hi := hide hi0
  have HLm := hide hl
  have HGm := hide hg
  obtain ⟨LL, hLL⟩ : ∃ LL, LL = L ++ [l] := ⟨_, rfl⟩
  have hLn : LL.length = L.length + 1 := by rw [hLL]; simp
  rw [← hLL] at HQ HLm HGm ⊢
  obtain ⟨n, hn⟩ : ∃ n, n = L.length := ⟨_, rfl⟩
  rw [← hn] at HRun hLn hcap h8 ⊢
  have HLn := hide hLn
  have hn1 : 1 ≤ n := by rw [hn]; exact List.length_pos_iff.2 h0
  obtain ⟨va1, va2, va3, hva, -, -⟩ : ∃ a b c, va = .slice a b c ∧ True ∧ True := by obtain ⟨a1, c1, rfl, -, -⟩ := ha; exact ⟨_, _, _, rfl, trivial, trivial⟩
  subst hva
  obtain ⟨res, hres⟩ : ∃ res, res = kS (kyL LL) := ⟨_, rfl⟩
  rw [← hres]
  have HRes := hide hres
  clear hres hn hLn hLL hi0 hg hl hQ1 hrun holds hvs1 hva1 hvl hvs hF hRow hR hs ha h0 hi1 hy0 hy1 hy2
  have k1 : (n : Int) ≤ (cap0 : Int) := by omega
  have k2 : (0 : Int) ≤ (n : Int) := by omega
  have k3 : (n : Int) ≤ (n : Int) := by omega
  go_enter Try.func47, Try.ntmps47
  go_wp2_with (at_builtin; refine wpList_append_z rfl _ _ 33 33 rfl rfl rfl HRun.out ?_)
  clear HRun
  go_wp2_with fail
  go_loopw [5, 20] (fun s i w' => ∃ (j : Nat), j ≤ n + 1 ∧ i = .int .i64 j ∧ w'.ownsRow w1.heap.size 5 1 s (kyL (LL.take j)).length (u8s (kyL (LL.take j))) ∧ Below w1.heap.size w1 w') (fun _ i _ => n + 1 - (intOf i).toNat)
  case atStart => exact ⟨0, by omega, rfl, World.ownsRow_nil _ _ _ _, Below.refl _ _⟩
  case round =>
    obtain ⟨j, hj, rfl, hO, hB⟩ := hrel
    have HO := hide hO
    obtain ⟨sad, sn, sc, hsf⟩ : ∃ sad sn sc, u5 = .slice sad sn sc := by
      obtain ⟨a, c, e⟩ := own_form hO
      exact ⟨_, _, _, e⟩
    subst hsf
    clear hO
    by_cases hlt : j < n + 1
    · have hlt' : (j : Int) < (n : Int) + 1 := by omega
      have hlt2 : (j : Int) < ((n + 1 : Nat) : Int) := by omega
      have hjl : j < LL.length := by rw [HLn.out]; exact hlt
      obtain ⟨lv, p0', pv⟩ := HQ.out.2 j hjl
      have p0 : wr.cell? ⟨w.heap.size + 1, j, none⟩ = some lv := (hB.cell (p := ⟨w.heap.size + 1, j, none⟩) hG1).trans p0'
      have hl1 := HLm.out LL[j] (List.getElem_mem hjl)
      have hg1 := HGm.out LL[j] (List.getElem_mem hjl)
      have HSc := hide (kyL_succ hjl)
      have hkl : (kyL (LL.take j)).length ≤ 9009 := by
        have := kyL_len (L := LL.take j) (fun x hx => HLm.out x (List.mem_of_mem_take hx))
        have h2 : (LL.take j).length ≤ 9 := by simp; have := HLn.out; omega
        have h3 : (LL.take j).length * 1001 ≤ 9 * 1001 := Nat.mul_le_mul_right _ h2
        omega
      obtain ⟨row, hrow⟩ : ∃ row, row = LL[j] := ⟨_, rfl⟩
      rw [← hrow] at pv hl1 hg1 HSc
      obtain ⟨ns0, hns0⟩ : ∃ ns0, ns0 = kyL (LL.take j) := ⟨_, rfl⟩
      rw [← hns0] at HO HSc hkl
      have HGd := hide hg1
      obtain ⟨ra, rc, rfl, hrr, hrc⟩ := pv
      have HRr := hide hrr
      have hG2 : w.heap.size + 1 < wr.heap.size := Nat.lt_of_lt_of_le hG1 hB.size
      obtain ⟨N, hN⟩ : ∃ N, N = row.length := ⟨_, rfl⟩
      rw [← hN] at p0 p0' hl1
      have HN := hide hN
      clear hrow hns0 hrr hg1 hN p0'
      go_wp2_with fail
      obtain ⟨wo, hwo⟩ : ∃ wo, wo = wr := ⟨_, rfl⟩
      subst hwo
      go_loopw [5, 26] (fun s i w' => ∃ (q : Nat), q ≤ N ∧ i = .int .i64 q ∧ w'.ownsRow w1.heap.size 5 1 s (ns0 ++ (row.take q).map eC).length (u8s (ns0 ++ (row.take q).map eC)) ∧ Below w1.heap.size w1 w') (fun _ i _ => N - (intOf i).toNat)
      case atStart => exact ⟨0, by omega, rfl, by simpa using HO.out, hB⟩
      case round =>
        clear HO hB hG2 p0
        obtain ⟨q, hq, rfl, hO, hB⟩ := hrel
        have hol := hO.lt
        have HOl := hide hol
        obtain ⟨tad, tn, tc, hsf⟩ : ∃ sad sn sc, u5 = .slice sad sn sc := by
          obtain ⟨a, c, e⟩ := own_form hO
          exact ⟨_, _, _, e⟩
        subst hsf
        have HO := hide hO
        clear hO hol
        by_cases hlq : q < N
        · have hlq' : (q : Int) < (N : Int) := by omega
          have hqr : q < row.length := by rw [← HN.out]; exact hlq
          obtain ⟨rb, ro, rfl, hrb, p0, p1⟩ := PtRow.tok HRr.out hB hqr
          obtain ⟨el, ee⟩ := eC_lt hd (HGd.out row[q] (List.getElem_mem hqr))
          have HT : Hid ((row.take (q + 1)).map eC = (row.take q).map eC ++ [eC row[q]]) := hide (by rw [List.take_succ_eq_append_getElem hqr, List.map_append]; rfl)
          obtain ⟨x, hx⟩ : ∃ x, x = row[q] := ⟨_, rfl⟩
          rw [← hx] at p0 p1 el ee HT
          obtain ⟨E, hE⟩ : ∃ E, E = eC x := ⟨_, rfl⟩
          rw [← hE] at el ee HT
          have hlen1 : (ns0 ++ (row.take q).map eC).length ≤ 10009 := by simp; omega
          obtain ⟨ns, hns⟩ : ∃ ns, ns = ns0 ++ (row.take q).map eC := ⟨_, rfl⟩
          rw [← hns] at HO hlen1
          have HT2 : Hid (ns0 ++ (row.take (q + 1)).map eC = ns ++ [E]) := hide (by rw [HT.out, hns, List.append_assoc])
          obtain ⟨kd, hkd⟩ : ∃ kd, kd = x.kd := ⟨_, rfl⟩
          obtain ⟨con, hcon⟩ : ∃ con, con = x.con := ⟨_, rfl⟩
          rw [← hkd] at p0 ee
          rw [← hcon] at p1 ee
          have kb1 : 1 ≤ kd ∧ kd ≤ 2 ∧ 0 ≤ con ∧ con ≤ 4 := by
            rw [hkd, hcon, hx]
            rcases good_kd (HGd.out row[q] (List.getElem_mem hqr)) with g | g <;> omega
          obtain ⟨kb1, kb2, kb3, kb4⟩ := kb1
          have hO3 := HO.out
          have HEe := hide ee
          clear hx hE hns HT hkd hcon HO ee el
          go_wp2_with (at_builtin; refine wpList_append_sep rfl _ _ 96 rfl w1.heap.size 5 i0 (.int .u8 0) 1 1 Try.underlying96 Hi.out hz0 hz1 hz2 rfl (by decide) _ _ _ rfl ((hO3.alloc _).alloc _) ⟨wr.heap.size + 1, 0, none⟩ 1 1 [.int .u8 (kd * 4 + con)] rfl rfl ?c1 ?c2 ?c3 ?c4 ?c5 ?_)
          case c1 => exact slC_cells (by have := heap_alloc_new (wr.alloc (.cells #[.int .i64 kd, .int .i64 con] 67)) (.cells #[.int .u8 (kd * 4 + con)] 5); simpa using this)
          case c2 => intro u hu; simp only [List.mem_singleton] at hu; subst hu; rfl
          case c3 => unfold maxLen; omega
          case c4 => omega
          case c5 => simp; have := hB.size; omega
          intro v' w4 hown4 hgrow hap
          have hb4 : Below w1.heap.size w1 w4 := ((hB.alloc hB.size _).alloc (by simp; have := hB.size; omega) _).grown hgrow (by simp; have := hB.size; omega) (fun k hk => (HOl.out k hk).1)
          obtain ⟨ad4, c4, rfl⟩ := own_form hown4
          have HO4 := hide (show w4.ownsRow w1.heap.size 5 1 (.slice ad4 (ns.length + 1) c4) (ns0 ++ (row.take (q + 1)).map eC).length (u8s (ns0 ++ (row.take (q + 1)).map eC)) from by
            rw [HT2.out, u8s_app]
            have := hown4
            rw [← HEe.out] at this
            simpa [u8s] using this)
          clear hown4 hgrow hap hO3 p0 p1
          go_wp2_with fail
          exact ⟨⟨q + 1, by omega, by go_num, HO4.out, hb4⟩, by simp [intOf]; omega⟩
        · obtain rfl : q = N := by omega
          have HT2 : Hid (ns0 ++ (row.take q).map eC ++ [0] = kyL (LL.take (j + 1))) := hide (by
            rw [HSc.out, List.take_of_length_le (by rw [← HN.out]; exact Nat.le_refl _), List.append_assoc])
          have hlen1 : (ns0 ++ (row.take q).map eC).length ≤ 10009 := by simp; omega
          obtain ⟨ns, hns⟩ : ∃ ns, ns = ns0 ++ (row.take q).map eC := ⟨_, rfl⟩
          rw [← hns] at HO hlen1 HT2
          have hO3 := HO.out
          clear hns HO
          go_wp2_with (at_builtin; refine wpList_append_sep rfl _ _ 96 rfl w1.heap.size 5 i0 (.int .u8 0) 1 1 Try.underlying96 Hi.out hz0 hz1 hz2 rfl (by decide) _ _ _ rfl (hO3.alloc _) ⟨wr.heap.size, 0, none⟩ 1 1 [.int .u8 0] rfl rfl ?c1 ?c2 ?c3 ?c4 ?c5 ?_)
          case c1 => exact slC_cells (heap_alloc_new wr _)
          case c2 => intro u hu; simp only [List.mem_singleton] at hu; subst hu; rfl
          case c3 => unfold maxLen; omega
          case c4 => omega
          case c5 => simp; have := hB.size; omega
          intro v' w4 hown4 hgrow hap
          have hb4 : Below w1.heap.size w1 w4 := (hB.alloc hB.size _).grown hgrow (by simp; have := hB.size; omega) (fun k hk => (HOl.out k hk).1)
          obtain ⟨ad4, c4, rfl⟩ := own_form hown4
          have HO4 := hide (show w4.ownsRow w1.heap.size 5 1 (.slice ad4 (ns.length + 1) c4) (kyL (LL.take (j + 1))).length (u8s (kyL (LL.take (j + 1)))) from by
            rw [← HT2.out, u8s_app]
            have := hown4
            simpa [u8s] using this)
          clear hown4 hgrow hap hO3
          go_wp2_with fail
          exact ⟨⟨j + 1, by omega, by go_num, HO4.out, hb4⟩, by simp [intOf]; omega⟩
    · obtain rfl : j = n + 1 := by omega
      have htk : LL.take (n + 1) = LL := by rw [List.take_of_length_le (by rw [HLn.out]; exact Nat.le_refl _)]
      rw [htk] at HO
      have hpos : 0 < (kyL LL).length := by
        have h1 := HLn.out
        cases hL : LL with
        | nil => rw [hL] at h1; simp at h1
        | cons x L' => simp [kyL]; omega
      obtain ⟨g, cap2, e1, hg0, hg1, hgc⟩ := tOwn_lies HO.out hpos
      simp only [Value.slice.injEq] at e1
      obtain ⟨rfl, rfl, rfl⟩ := e1
      have hcv : (convert 96 9 (.slice (some ⟨g, 0, none⟩) (kyL LL).length sc)).run Try.prog wr = .ok (.string res) wr := by
        rw [run_convert_bytes_string wr 96 9 5 _ _ _ Try.underlying96 Try.underlying5 Try.underlying9]
        have hload := run_loadCells_list (P := Try.prog) wr ⟨g, 0, none⟩ (u8s (kyL LL)) (fun j v hj => by rw [Addr.add_lit, Nat.zero_add]; exact hgc j v hj)
        rw [u8s_len] at hload
        have h2 := run_bytesToString (P := Try.prog) wr ⟨g, 0, none⟩ (kyL LL).length sc ((kyL LL).map (fun (n : Nat) => (n : Int))) (by rw [hload]; simp [u8s])
        rw [h2, HRes.out]
        congr 2
        unfold kS
        rw [List.foldl_map]
        simp
      obtain ⟨N, hN⟩ : ∃ N, N = (kyL LL).length := ⟨_, rfl⟩
      rw [← hN] at hcv ⊢
      clear hN hgc HO
      go_wp2_with fail
      go_ret
      exact ⟨rfl, hB1.trans (hB.mono hB1.size)⟩
end Go.Proofs.Ytfepljcblajfpab.W

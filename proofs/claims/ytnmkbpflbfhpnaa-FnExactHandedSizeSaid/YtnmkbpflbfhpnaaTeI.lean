/-
  The variables that are bound nowhere, by the program: contracts of FreeIn's closure and of FreeIn. Conditions: at most 1048576 cells.
-/
import Derived.Test.YtnmkbpflbfhpnaaTeE
namespace Go.Proofs.Ytnmkbpflbfhpnaa.W
open Go.ChangeShapes Go.WideShapes Go.ChangeAt Go.RowKit
set_option linter.unusedVariables false

theorem iOwn_lower {w : World} {base base' n size : Nat} {e : TypeId} {v : Value} {xs : List Value} (h : w.ownsRow base e size v n xs) (hb : base' ≤ base) : w.ownsRow base' e size v n xs := by
  refine ⟨h.1, ?_⟩
  rcases h.2 with h1 | ⟨g, cap, cur, hv, hg, rest⟩
  · exact .inl h1
  · exact .inr ⟨g, cap, cur, hv, by omega, rest⟩

/-- A hundred marks. -/
def bitO (s : List Bool) : Obj := .cells (s.map Value.bool).toArray 96 (0, 0)
def bitS (s : List Bool) (n : Int) (d : Nat) : List Bool := if (d : Int) ≤ n then s.set (n - (d : Int)).toNat true else s
def sameV (_ : List Bool) (n : Int) (_ : Nat) : F := .cons ⟨1, n⟩ .nil .nil

theorem fnFree : ∀ args w, (callFunc 63 args).run Try.prog w = .ok (.enter 63 args) w := fun args w => by kernel_rfl

set_option maxRecDepth 20000 in
set_option maxHeartbeats 1000000 in
theorem chgFree (cb : Nat) : ChgOK (σ := {s : List Bool // s.length = 100}) 63 #[.pointer (some ⟨cb, 0, none⟩)] cb (fun s w => w.heap[cb]? = some (bitO s.1)) (fun s n d => sameV s.1 n d) (fun s n d => ⟨bitS s.1 n d, by unfold bitS; split <;> simp [s.2]⟩) := by
  rintro ⟨s, hs⟩ n d w h0 h1 hd hcb hinv
  have hb : w.heap[cb]? = some (bitO s) := hinv.get
  simp only
  show Calls Try.prog 63 #[.agg #[.int .i64 n], .int .i64 (d : Int), .pointer (some ⟨cb, 0, none⟩)] w _
  have HB := hide hb
  clear hb hinv
  by_cases hdn : (d : Int) ≤ n
  · obtain ⟨j, hj⟩ := Int.eq_ofNat_of_zero_le (show 0 ≤ n - (d : Int) by omega)
    have hj100 : j < 100 := by omega
    have hj100' : (j : Int) < 100 := by omega
    have hjs : j < s.length := by omega
    have hcell : w.cell? ⟨cb, j, none⟩ = some (.bool (s[j]'hjs)) := by rw [cell_of_blk HB.out]; simp [hjs]
    have hfz : w.frozen? ⟨cb, j, none⟩ = false := unfrozen_of_blk HB.out j
    have hset : bitS s n d = s.set j true := by unfold bitS; rw [if_pos hdn, hj]; rfl
    go_enter Try.func63, Try.ntmps63
    have HSet := hide hset
    have HJ := hide hj
    clear hset
    go_wp2_with fail
    go_ret
    refine ⟨rfl, Inv.blk ?_, ((Oth.refl cb w).setCell j (.bool true)).trans (Oth.alloc1 _ _ _)⟩
    show _ = some (bitO (bitS s n d))
    rw [HSet.out, heap_alloc_old _ _ (by simp [World.setCell]; exact hcb), blk_setCell HB.out]
    simp [bitO]
  · have hset : bitS s n d = s := by unfold bitS; rw [if_neg hdn]
    have HSet := hide hset
    clear hset
    go_enter Try.func63, Try.ntmps63
    go_wp2_with fail
    go_ret
    refine ⟨rfl, Inv.blk ?_, Oth.alloc1 _ _ _⟩
    show _ = some (bitO (bitS s n d))
    rw [HSet.out, heap_alloc_old _ _ hcb]
    exact HB.out

/-- The places below j that are marked. -/
def mkd (s : List Bool) (j : Nat) : List Int := ((List.range j).filter fun i => s.getD i false).map Int.ofNat
def marked (s : List Bool) : List Int := mkd s 100
theorem mkd_succ (s : List Bool) (j : Nat) : mkd s (j + 1) = if s.getD j false = true then mkd s j ++ [(j : Int)] else mkd s j := by
  unfold mkd
  rw [List.range_succ, List.filter_append, List.map_append]
  split
  · rename_i h; rw [List.filter_cons, if_pos h]; rfl
  · rename_i h; rw [List.filter_cons, if_neg h]; simp
theorem mkd_len (s : List Bool) (j : Nat) : (mkd s j).length ≤ j := by
  unfold mkd
  rw [List.length_map]
  exact Nat.le_trans (List.length_filter_le _ _) (by simp)

theorem idx_bool (B : List Bool) (hB : B.length = 100) (j : Nat) (hj : j < 100) (w : World) : (Instr.index 96 (.agg (B.map Value.bool).toArray) (.int .i64 (j : Int))).run Try.prog w = .ok (.bool (B.getD j false)) w := by
  obtain ⟨i, hi, e⟩ := Option.map_eq_some_iff.1 (show (Try.prog.info? 4).map (fun i => (i.zero, i.size, i.bytes)) = some (some (.bool false), 1, 1) by kernel_rfl)
  simp only [Prod.mk.injEq] at e
  have hjl : j < B.length := by omega
  simp [Instr.index, run_underlying Try.underlying96, sizeOf, typeInfo, hi, e.2.1, go_sem, hj, hjl]

/-- The marks of a term's variables (type 96). -/
def bits (x : Cc) (k : F) : List Bool := (w1 (σ := {s : List Bool // s.length = 100}) (fun s n d => sameV s.1 n d) (fun s n d => ⟨bitS s.1 n d, by unfold bitS; split <;> simp [s.2]⟩) 0 x k ⟨List.replicate 100 false, by simp⟩).2.1

set_option maxRecDepth 20000 in
set_option maxHeartbeats 1000000 in
theorem implFreeIn_some (ad : Option Addr) (c : Nat) (l : List Cc) (a : F) (w : World) (hl : l.length ≤ 1048576) (hc : l.length ≤ c) (h : CRow w ad l) (ht : treeT l = some a) (x : Cc) (k : F) (ha : a = .cons x k .nil) :
    Calls Try.prog 33 #[.slice ad l.length c] w fun e w' => ∃ s', e = .returned (.tuple #[s', .bool true]) ∧ w'.ownsRow w.heap.size 3 1 s' (marked (bits x k)).length ((marked (bits x k)).map (Value.int .i64)) ∧ Below w.heap.size w w' := by
  have HR := hide h
  have hg : goodT l = true := by unfold goodT; rw [ht]; rfl
  have HT := hide (treeT_flat ht)
  have HG := hide (implGoodT_any ad c l)
  rw [hg] at HG
  clear h ht hg
  go_enter Try.func33, Try.ntmps33
  go_wp2_with fail
  refine (HG.out w hl HR.out).mono ?_
  rintro e w1 ⟨rfl, hb1⟩
  go_wp2_with fail
  obtain ⟨t1, t2, t3, t4, t5⟩ := HT.out
  obtain ⟨w2, hw2⟩ : ∃ w2, w2 = w1.alloc (.cells Try.zeroCells96 96) := ⟨_, rfl⟩
  rw [← hw2]
  have hz : Try.zeroCells96 = ((List.replicate 100 false).map Value.bool).toArray := by kernel_rfl
  have hbk : w2.heap[w1.heap.size]? = some (bitO (List.replicate 100 false)) := by rw [hw2, hz]; exact heap_alloc_new _ _
  have hB12 : Below w1.heap.size w1 w2 := by rw [hw2]; exact (Below.refl _ _).alloc (Nat.le_refl _) _
  have hB2 : Below w.heap.size w w2 := hb1.trans (hB12.mono hb1.size)
  have hR2 := HR.out.below hB2
  have hpo := partOf_any a ad c w2 t2 t3 (by rw [← t1]; exact hl) (by rw [← t1]; exact hc) (by rw [← t1]; exact hR2)
  rw [← t1] at hpo
  have HPo := hide hpo
  have HBk := hide hbk
  have hsz1 := hb1.size
  have hcb : w1.heap.size < w2.heap.size := (Array.getElem?_eq_some_iff.1 hbk).1
  subst ha
  obtain ⟨g1, l1, o1, -⟩ := ok_cons t2
  have hkf : 0 + k.flat.length ≤ 1048576 := by rw [t1] at t4; simp [F.flat] at t4; omega
  have hwv := withVariables_any (σ := {s : List Bool // s.length = 100}) 63 #[.pointer (some ⟨w1.heap.size, 0, none⟩)] w1.heap.size (fun s w => w.heap[w1.heap.size]? = some (bitO s.1)) (fun s n d => sameV s.1 n d) (fun s n d => ⟨bitS s.1 n d, by unfold bitS; split <;> simp [s.2]⟩) fnFree (chgFree _) (fun s n d => rfl) k x ⟨List.replicate 100 false, by simp⟩ 0 g1 l1 o1 hkf
  have hpt : pvT (.cons x k .nil) = pv x.k x.n (pvs k) := rfl
  rw [← hpt] at hwv
  have hrl := wv_len (σ := {s : List Bool // s.length = 100}) (g := fun s n d => sameV s.1 n d) (st := fun s n d => ⟨bitS s.1 n d, by unfold bitS; split <;> simp [s.2]⟩) (fun s n d => rfl) (.cons x k .nil) 0 0 0 ⟨List.replicate 100 false, by simp⟩
  obtain ⟨RR, hRR⟩ : ∃ RR, RR = W.w1 (σ := {s : List Bool // s.length = 100}) (fun s n d => sameV s.1 n d) (fun s n d => ⟨bitS s.1 n d, by unfold bitS; split <;> simp [s.2]⟩) 0 x k ⟨List.replicate 100 false, by simp⟩ := ⟨_, rfl⟩
  have hbits : RR.2.1 = bits x k := by rw [hRR]; rfl
  unfold WVC at hwv
  rw [← hRR] at hwv
  have hrl' : RR.1.len = 1 := by rw [hRR]; exact hrl
  obtain ⟨T, u, hV⟩ := pvT_iface hrl'
  obtain ⟨T0, u0, hV0⟩ := pvT_iface (a := .cons x k .nil) rfl
  rw [hV, hV0, show ((0 : Nat) : Int) = 0 from rfl] at hwv
  rw [hV0] at HPo
  have HWV := hide hwv
  have HBits := hide hbits
  clear hw2 hz hbk hR2 hpo t1 t2 t3 t4 t5 HT HG g1 l1 o1 hkf hwv hpt hrl hRR hbits hrl' hV hV0
  refine Calls.mono HPo.out ?_
  rintro e w3 ⟨rfl, hb3⟩
  have HBk3 := hide ((hb3.block _ hcb).trans HBk.out)
  have hcb3 : w1.heap.size < w3.heap.size := Nat.lt_of_lt_of_le hcb hb3.size
  have hB3 : Below w.heap.size w w3 := hB2.trans (hb3.mono hB2.size)
  clear hb3 HBk HPo hB12
  go_wp2_with fail
  refine Calls.mono (HWV.out _ hcb3 (Inv.blk HBk3.out)) ?_
  rintro e w4 ⟨rfl, hi4, ho4⟩
  have hb4 : w4.heap[w1.heap.size]? = some (bitO (bits x k)) := by rw [← HBits.out]; exact hi4.get
  have hB4 : Below w.heap.size w w4 := hB3.trans (ho4.below (by have := hB3.size; omega) hsz1)
  have HB4 := hide hb4
  clear hi4 ho4 hb4 HBk3
  obtain ⟨i0, hi0, hz0, hz1, hz2⟩ := infoPartsT infoInt
  have Hi := hide hi0
  clear hi0
  obtain ⟨B, hB⟩ : ∃ B, B = bits x k := ⟨_, rfl⟩
  rw [← hB] at HB4
  have HBB := hide hB
  clear hB
  have hBl : B.length = 100 := by rw [HBB.out]; exact (W.w1 (σ := {s : List Bool // s.length = 100}) (fun s n d => sameV s.1 n d) (fun s n d => ⟨bitS s.1 n d, by unfold bitS; split <;> simp [s.2]⟩) 0 x k ⟨List.replicate 100 false, by simp⟩).2.2
  have HRg : Hid (w4.rangeAt w1.heap.size 0 (B.map Value.bool)) := hide (fun j v hj => by rw [cell_of_blk HB4.out, Nat.zero_add, ← hj]; simp)
  have HInf : Hid ((Try.prog.info? 96).map (·.size) = some (B.map Value.bool).length) := hide (by rw [List.length_map, hBl]; kernel_rfl)
  go_wp2_with fail
  refine wp_load_mid 96 _ rfl w1.heap.size 0 rfl (B.map Value.bool) _ HRg.out Try.underlying96 rfl HInf.out ?_
  go_wp2_with fail
  have hsz4 := hB4.size
  clear HRg HInf HB4
  go_loopw [5, 16] (fun o5 i w' => ∃ j : Nat, j ≤ 100 ∧ i = .int .i64 (j : Int) ∧ w'.ownsRow w4.heap.size 3 1 o5 (mkd B j).length ((mkd B j).map (Value.int .i64)) ∧ Below w4.heap.size w4 w') (fun _ i _ => 100 - (intOf i).toNat)
  case atStart => exact ⟨0, by omega, rfl, World.ownsRow_nil _ _ _ _, Below.refl _ _⟩
  case round =>
    obtain ⟨j, hj, rfl, hown, hBr⟩ := hrel
    obtain ⟨oad, oc, hform⟩ := iOwn_form hown
    subst hform
    have HO := hide hown
    clear hown
    have hml := mkd_len B j
    by_cases hlt : j < 100
    · have hlt' : (j : Int) < 100 := by omega
      have hidx := idx_bool B hBl j hlt
      have hms := mkd_succ B j
      cases hb : B.getD j false with
      | false =>
        rw [hb] at hidx hms
        rw [if_neg (by simp)] at hms
        have HMs := hide hms
        clear hb hms
        go_wp2_with fail
        exact ⟨⟨j + 1, by omega, by go_num, by rw [HMs.out]; exact HO.out, hBr⟩, by simp [intOf]; omega⟩
      | true =>
        rw [hb] at hidx hms
        rw [if_pos rfl] at hms
        have HMs := hide hms
        clear hb hms
        have hszr := hBr.size
        have T2 : Hid (∀ i u, [Value.int .i64 (j : Int)][i]? = some u → (wr.alloc (.cells #[.int .i64 (j : Int)] 3)).cell? ((⟨wr.heap.size, 0, none⟩ : Addr).add i) = some u) := hide (by
          intro i u hu
          rw [iAdd, Nat.zero_add, cell_of_blk (heap_alloc_new wr (.cells #[.int .i64 (j : Int)] 3)), ← hu]
          simp)
        have M2 : Hid ((mkd B j).length + 1 ≤ maxLen) := hide (by unfold maxLen; omega)
        obtain ⟨ml, hmle⟩ : ∃ ml, ml = (mkd B j).length := ⟨_, rfl⟩
        rw [← hmle] at HO M2 hml ⊢
        have HMl := hide hmle
        clear hmle
        go_wp2_with (at_builtin; refine wpList_append_own _ rfl _ _ 56 rfl w4.heap.size 3 i0 (.int .i64 0) 1 8 Try.underlying56 Hi.out hz0 hz1 hz2 rfl (by decide) _ _ _ rfl (HO.out.alloc _) ⟨wr.heap.size, 0, none⟩ 1 1 [.int .i64 (j : Int)] rfl rfl T2.out (iOne [(j : Int)]) M2.out (by omega) (by simp; omega) ?_)
        intro v2 w2' hown2 hgrow2 _
        obtain ⟨ad2, c2, rfl⟩ := iOwn_form hown2
        have hB2' : Below w4.heap.size w4 w2' := (hBr.alloc hBr.size _).grown hgrow2 (by simp; omega) (fun k hk => (HO.out.lt k hk).1)
        have HO2 := hide hown2
        clear hown2 hgrow2
        go_wp2_with fail
        refine ⟨⟨j + 1, by omega, by go_num, ?_, hB2'⟩, by simp [intOf]; omega⟩
        rw [HMs.out, List.length_append, List.map_append, ← HMl.out]
        exact HO2.out
    · obtain rfl : j = 100 := by omega
      go_wp2_with fail
      have hBw : Below w.heap.size w wr := hB4.trans (hBr.mono hB4.size)
      refine bodyPost_ret (v := .tuple #[.slice oad (mkd B 100).length oc, .bool true]) (by simp [results, Try.results33, go_sem]) rfl ⟨_, rfl, ?_, hBw⟩
      rw [← HBB.out]
      exact iOwn_lower HO.out hB4.size

set_option maxHeartbeats 1000000 in
theorem implFreeIn_none (ad : Option Addr) (c : Nat) (l : List Cc) (w : World) (hl : l.length ≤ 1048576) (h : CRow w ad l) (ht : treeT l = none) :
    Calls Try.prog 33 #[.slice ad l.length c] w fun e w' => e = .returned (.tuple #[.slice none 0 0, .bool false]) ∧ Below w.heap.size w w' := by
  have hg : goodT l = false := by unfold goodT; rw [ht]; rfl
  have HR := hide h
  have HG := hide (implGoodT_any ad c l w hl h)
  rw [hg] at HG
  clear h ht hg
  go_enter Try.func33, Try.ntmps33
  go_wp2_with fail
  refine HG.out.mono ?_
  rintro e w1 ⟨rfl, hb1⟩
  go_wp2_with fail
  exact bodyPost_ret (v := .tuple #[.slice none 0 0, .bool false]) (by simp [results, Try.results33, go_sem]) rfl ⟨rfl, hb1⟩
end Go.Proofs.Ytnmkbpflbfhpnaa.W

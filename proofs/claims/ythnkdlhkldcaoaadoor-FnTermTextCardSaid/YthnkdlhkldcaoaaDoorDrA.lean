/-
  Drawing from bytes: contracts of next, pick, one and among. Conditions: a cursor in a box of its own, read less than 1000000 times.
-/
import Derived.Test.YthnkdlhkldcaoaaDoorTeM
import Derived.Deep.RegionHeld3
import Derived.BigQuiet
import Derived.WalkSmall
namespace Go.Proofs.YthnkdlhkldcaoaaDoor.W
open Go.ChangeShapes Go.WideShapes Go.ChangeAt Go.RowKit
set_option linter.unusedVariables false
set_option linter.unusedSimpArgs false

theorem u64_rng (x : Int) : 0 ≤ IntKind.u64.wrap x ∧ IntKind.u64.wrap x ≤ 18446744073709551615 := by
  simp only [IntKind.wrap, IntKind.signed, IntKind.bits]
  simp
  omega
theorem seed_byte (sd : Int) (h : 0 ≤ sd) (h1 : sd ≤ 18446744073709551615) : 0 ≤ wrap64 (bits BinOp.and IntKind.u64 (sd / 1099511627776) 255) ∧ wrap64 (bits BinOp.and IntKind.u64 (sd / 1099511627776) 255) ≤ 255 := by
  obtain ⟨E, hE⟩ : ∃ E : Nat, (E : Int) = sd / 1099511627776 := ⟨(sd / 1099511627776).toNat, by omega⟩
  have hb := bits_and_u64_nat E 255 (by omega) (by omega)
  rw [← hE]
  have hb' : bits BinOp.and IntKind.u64 (E : Int) 255 = ((E &&& 255 : Nat) : Int) := hb
  rw [hb']
  have h2 : E &&& 255 ≤ 255 := Nat.and_le_right
  unfold wrap64
  omega
/-- A row of bytes that lies below c. -/
def BR (w : World) (c : Nat) (ad : Option Addr) (n : Nat) : Prop := n = 0 ∨ ∃ b o, ad = some ⟨b, o, none⟩ ∧ b < c ∧ b < w.heap.size ∧ ∀ i, i < n → ∃ v : Int, 0 ≤ v ∧ v ≤ 255 ∧ w.cell? ⟨b, o + i, none⟩ = some (.int .u8 v)
theorem BR.keep {w w' : World} {c n : Nat} {ad : Option Addr} (h : BR w c ad n) (hg : w.grownBy w' (some c)) : BR w' c ad n := by
  rcases h with h | ⟨b, o, h1, h2, h3, h4⟩
  · exact .inl h
  · refine .inr ⟨b, o, h1, h2, Nat.lt_of_lt_of_le h3 hg.size, fun i hi => ?_⟩
    obtain ⟨v, h5, h6, h7⟩ := h4 i hi
    exact ⟨v, h5, h6, (World.cell?_of_block (a := ⟨b, o + i, none⟩) (hg.block b h3 (fun e => by simp at e; omega))).trans h7⟩
/-- A cursor over bytes, in the block c, that was read at most m times. -/
def CU (w : World) (c : Nat) (ad : Option Addr) (n cp m : Nat) : Prop := ∃ a s : Int, 0 ≤ a ∧ a ≤ (m : Int) ∧ w.heap[c]? = some (.cells #[.slice ad n cp, .int .i64 a, .int .u64 s] 50 (0, 0)) ∧ BR w c ad n
theorem CU.more {w : World} {c n cp m m' : Nat} {ad : Option Addr} (h : CU w c ad n cp m) (hm : m ≤ m') : CU w c ad n cp m' := by
  obtain ⟨a, s, h1, h2, h3⟩ := h
  exact ⟨a, s, h1, by omega, h3⟩
theorem CU.lt {w : World} {c n cp m : Nat} {ad : Option Addr} (h : CU w c ad n cp m) : c < w.heap.size := by
  obtain ⟨a, s, h1, h2, h3, -⟩ := h
  exact (Array.getElem?_eq_some_iff.1 h3).1
theorem CU.below {w w' : World} {c n cp m : Nat} {ad : Option Addr} (h : CU w c ad n cp m) (hb : Below w.heap.size w w') : CU w' c ad n cp m := by
  obtain ⟨a, s, h1, h2, h3, h4⟩ := h
  refine ⟨a, s, h1, h2, (hb.block c (Array.getElem?_eq_some_iff.1 h3).1).trans h3, ?_⟩
  rcases h4 with h | ⟨b, o, h1, h2, h3, h4⟩
  · exact .inl h
  · refine .inr ⟨b, o, h1, h2, Nat.lt_of_lt_of_le h3 hb.size, fun i hi => ?_⟩
    obtain ⟨v, h5, h6, h7⟩ := h4 i hi
    exact ⟨v, h5, h6, (hb.cell (p := ⟨b, o + i, none⟩) h3).trans h7⟩
theorem CU.drewN {w : World} {c n cp m : Nat} {ad : Option Addr} (h : CU w c ad n cp m) (q : Nat) : CU (w.drewN q) c ad n cp m := h
theorem grown_drewN {a b : World} {r : Option Nat} (h : a.grownBy b r) (q : Nat) : a.grownBy (b.drewN q) r := ⟨h.os, h.tape, h.output, h.size, h.block⟩
theorem grown_trans {a b c : World} {r : Option Nat} (h1 : a.grownBy b r) (h2 : b.grownBy c r) : a.grownBy c r := ⟨h2.os.trans h1.os, h2.tape.trans h1.tape, h2.output.trans h1.output, Nat.le_trans h1.size h2.size, fun k hk hn => (h2.block k (Nat.lt_of_lt_of_le hk h1.size) hn).trans (h1.block k hk hn)⟩
theorem grown_below {a b : World} (r : Option Nat) (h : Below a.heap.size a b) : a.grownBy b r := ⟨h.os, h.tape, h.output, h.size, fun k hk _ => h.block k hk⟩
theorem grown_refl (a : World) (r : Option Nat) : a.grownBy a r := ⟨rfl, rfl, rfl, Nat.le_refl _, fun _ _ _ => rfl⟩
theorem grown_drew {a b : World} {r : Option Nat} (h : a.grownBy b r) : a.grownBy b.drew r := ⟨h.os, h.tape, h.output, h.size, h.block⟩

set_option maxRecDepth 20000 in
set_option maxHeartbeats 2000000 in
theorem next_any (c n cp m : Nat) (ad : Option Addr) (w : World) (hm : m ≤ 1000000) (hn : (n : Int) ≤ 9223372036854775807) (h : CU w c ad n cp m) :
    Calls Tryd.prog 56 #[.pointer (some ⟨c, 0, none⟩)] w fun e w' => ∃ r : Int, e = .returned (.int .i64 r) ∧ 0 ≤ r ∧ r ≤ 255 ∧ CU w' c ad n cp (m + 1) ∧ w.grownBy w' (some c) := by
  obtain ⟨a, s, h1, h2, h3, h4⟩ := h
  have H4 := hide h4
  have HB := hide h3
  have e0 : w.cell? ⟨c, 0, none⟩ = some (.slice ad n cp) := (cell_of_blk h3 0).trans rfl
  have e1 : w.cell? ⟨c, 1, none⟩ = some (.int .i64 a) := (cell_of_blk h3 1).trans rfl
  have e2 : w.cell? ⟨c, 2, none⟩ = some (.int .u64 s) := (cell_of_blk h3 2).trans rfl
  have fz := unfrozen_of_blk h3
  clear h3 h4
  by_cases hlt : a < (n : Int)
  · obtain ⟨b, o, rfl, hbc, hbw, hrd⟩ : ∃ b o, ad = some ⟨b, o, none⟩ ∧ b < c ∧ b < w.heap.size ∧ ∀ i, i < n → ∃ v : Int, 0 ≤ v ∧ v ≤ 255 ∧ w.cell? ⟨b, o + i, none⟩ = some (.int .u8 v) := by
      rcases H4.out with h | h
      · omega
      · exact h
    obtain ⟨j, rfl⟩ : ∃ j : Nat, a = (j : Int) := ⟨a.toNat, by omega⟩
    obtain ⟨v, hv0, hv1, e3⟩ := hrd j (by omega)
    have hj : j < n := by omega
    clear hrd
    go_enter Tryd.func56, Tryd.ntmps56
    go_wp2_with fail
    go_quiet (fail)
    go_wp2_with fail
    generalize hw2 : w.drewN nq = w2
    have f0 : w2.cell? ⟨c, 0, none⟩ = some (.slice (some ⟨b, o, none⟩) n cp) := by rw [← hw2]; exact e0
    have f1 : w2.cell? ⟨c, 1, none⟩ = some (.int .i64 (j : Int)) := by rw [← hw2]; exact e1
    have f2 : w2.cell? ⟨c, 2, none⟩ = some (.int .u64 s) := by rw [← hw2]; exact e2
    have f3 : w2.cell? ⟨b, o + j, none⟩ = some (.int .u8 v) := by rw [← hw2]; exact e3
    have fz2 : ∀ i, w2.frozen? ⟨c, i, none⟩ = false := by rw [← hw2]; exact fz
    have HB2 : Hid (w2.heap[c]? = some (.cells #[.slice (some ⟨b, o, none⟩) n cp, .int .i64 (j : Int), .int .u64 s] 50 (0, 0))) := hide (by rw [← hw2]; exact HB.out)
    have HW2 := hide hw2
    clear hw2 e0 e1 e2 e3 fz
    go_quiet (fail)
    go_wp2_with fail
    obtain ⟨sd, hsd⟩ : ∃ sd : Int, sd = IntKind.u64.wrap (IntKind.u64.wrap (IntKind.u64.wrap (s * 6364136223846793005) + v) + 1442695040888963407) := ⟨_, rfl⟩
    rw [← hsd]
    obtain ⟨W, hW⟩ : ∃ W, W = ((w2.drewN nq).setCell ⟨c, 1, none⟩ (.int .i64 ((j : Int) + 1))).setCell ⟨c, 2, none⟩ (.int .u64 sd) := ⟨_, rfl⟩
    have hbl : W.heap[c]? = some (.cells #[.slice (some ⟨b, o, none⟩) n cp, .int .i64 ((j : Int) + 1), .int .u64 sd] 50 (0, 0)) := by
      rw [hW]
      exact blk_setCell (blk_setCell (show (w2.drewN nq).heap[c]? = _ from HB2.out) _) _
    have hgr : w.grownBy W (some c) := by
      rw [hW, ← HW2.out]
      refine ⟨rfl, rfl, rfl, ?_, fun k hk hn => ?_⟩
      · simp
      · rw [Below.heap_setCell _ _ _ _ (fun e => hn (by rw [e])), Below.heap_setCell _ _ _ _ (fun e => hn (by rw [e]))]
        rfl
    rw [← hW]
    have e0 : W.cell? ⟨c, 0, none⟩ = some (.slice (some ⟨b, o, none⟩) n cp) := (cell_of_blk hbl 0).trans rfl
    have e1 : W.cell? ⟨c, 1, none⟩ = some (.int .i64 ((j : Int) + 1)) := (cell_of_blk hbl 1).trans rfl
    have e2 : W.cell? ⟨c, 2, none⟩ = some (.int .u64 sd) := (cell_of_blk hbl 2).trans rfl
    have HCU : Hid (CU W c (some ⟨b, o, none⟩) n cp (m + 1)) := hide ⟨(j : Int) + 1, sd, by omega, by omega, hbl, H4.out.keep hgr⟩
    have HGr := hide hgr
    have hsr : 0 ≤ sd ∧ sd ≤ 18446744073709551615 := by rw [hsd]; exact u64_rng _
    clear hsd hW hbl hgr H4 HB HB2 HW2
    have hlt2 : (j : Int) + 1 ≤ (n : Int) := by omega
    go_quiet (fail)
    go_wp2_with fail
    go_ret
    exact ⟨_, rfl, hv0, hv1, HCU.out.drewN _, grown_drewN HGr.out _⟩
  · go_enter Tryd.func56, Tryd.ntmps56
    go_wp2_with fail
    go_quiet (fail)
    go_wp2_with fail
    obtain ⟨sd, hsd⟩ : ∃ sd : Int, sd = IntKind.u64.wrap (IntKind.u64.wrap (IntKind.u64.wrap (s * 6364136223846793005)) + 1442695040888963407) := ⟨_, rfl⟩
    rw [← hsd]
    obtain ⟨W, hW⟩ : ∃ W, W = ((w.drewN nq).setCell ⟨c, 1, none⟩ (.int .i64 (a + 1))).setCell ⟨c, 2, none⟩ (.int .u64 sd) := ⟨_, rfl⟩
    have hbl : W.heap[c]? = some (.cells #[.slice ad n cp, .int .i64 (a + 1), .int .u64 sd] 50 (0, 0)) := by
      rw [hW]
      exact blk_setCell (blk_setCell (show (w.drewN nq).heap[c]? = _ from HB.out) _) _
    have hgr : w.grownBy W (some c) := by
      rw [hW]
      refine ⟨rfl, rfl, rfl, ?_, fun k hk hn => ?_⟩
      · simp
      · rw [Below.heap_setCell _ _ _ _ (fun e => hn (by rw [e])), Below.heap_setCell _ _ _ _ (fun e => hn (by rw [e]))]
        rfl
    rw [← hW]
    have e0 : W.cell? ⟨c, 0, none⟩ = some (.slice ad n cp) := (cell_of_blk hbl 0).trans rfl
    have e1 : W.cell? ⟨c, 1, none⟩ = some (.int .i64 (a + 1)) := (cell_of_blk hbl 1).trans rfl
    have e2 : W.cell? ⟨c, 2, none⟩ = some (.int .u64 sd) := (cell_of_blk hbl 2).trans rfl
    have HCU : Hid (CU W c ad n cp (m + 1)) := hide ⟨a + 1, sd, by omega, by omega, hbl, H4.out.keep hgr⟩
    have HGr := hide hgr
    have hsr : 0 ≤ sd ∧ sd ≤ 18446744073709551615 := by rw [hsd]; exact u64_rng _
    clear hsd hW hbl hgr H4 HB
    have hlt2 : ¬ a + 1 ≤ (n : Int) := by omega
    have hlt3 : (n : Int) < a + 1 := by omega
    go_quiet (fail)
    go_wp2_with fail
    go_ret
    exact ⟨_, rfl, (seed_byte sd hsr.1 hsr.2).1, (seed_byte sd hsr.1 hsr.2).2, HCU.out.drewN _, grown_drewN HGr.out _⟩

set_option maxRecDepth 20000 in
set_option maxHeartbeats 2000000 in
theorem pick_any (c n cp m k : Nat) (ad : Option Addr) (w : World) (hm : m + 2 ≤ 1000000) (hk : k ≤ 1000000) (hn : (n : Int) ≤ 9223372036854775807) (h : CU w c ad n cp m) :
    Calls Tryd.prog 38 #[.pointer (some ⟨c, 0, none⟩), .int .i64 (k : Int)] w fun e w' => ∃ r : Nat, e = .returned (.int .i64 (r : Int)) ∧ (r < k ∨ r = 0) ∧ CU w' c ad n cp (m + 2) ∧ w.grownBy w' (some c) := by
  by_cases h1 : k ≤ 1
  · have h1' : (k : Int) ≤ 1 := by omega
    have HC := hide (h.more (m' := m + 2) (by omega))
    clear h
    go_enter Tryd.func38, Tryd.ntmps38
    go_wp2_with fail
    go_ret
    exact ⟨0, rfl, .inr rfl, HC.out, grown_refl _ _⟩
  · have h1' : ¬ (k : Int) ≤ 1 := by omega
    have HN := hide (next_any c n cp m ad w (by omega) hn h)
    clear h
    by_cases h2 : k ≤ 200
    · have h2' : ¬ (200 : Int) < (k : Int) := by omega
      go_enter Tryd.func38, Tryd.ntmps38
      go_wp2_with fail
      refine Calls.mono HN.out ?_
      rintro e w1 ⟨r, rfl, hr0, hr1, hc1, hg1⟩
      obtain ⟨r, rfl⟩ : ∃ q : Nat, r = (q : Int) := ⟨r.toNat, by omega⟩
      have HC := hide (hc1.more (m' := m + 2) (by omega))
      have HG := hide hg1
      have hk0 : (k : Int) ≠ 0 := by omega
      have ht : (r : Int) % (k : Int) = ((r % k : Nat) : Int) := rfl
      have Ht := hide ht
      clear ht
      clear hc1 hg1 HN
      go_wp2_with fail
      go_ret
      refine ⟨r % k, ?_, .inl (Nat.mod_lt _ (by omega)), HC.out, HG.out⟩
      exact congrArg (fun z => Ending.returned (Value.int .i64 z)) Ht.out
    · have h2' : (200 : Int) < (k : Int) := by omega
      go_enter Tryd.func38, Tryd.ntmps38
      go_wp2_with fail
      refine Calls.mono HN.out ?_
      rintro e w1 ⟨r, rfl, hr0, hr1, hc1, hg1⟩
      have HN2 := hide (next_any c n cp (m + 1) ad w1 (by omega) hn hc1)
      have HG := hide hg1
      clear hc1 hg1 HN
      go_wp2_with fail
      refine Calls.mono HN2.out ?_
      rintro e w2 ⟨r2, rfl, hs0, hs1, hc2, hg2⟩
      have HC := hide hc2
      have HG2 := hide (grown_trans HG.out hg2)
      obtain ⟨q, hq⟩ : ∃ q : Nat, r * 256 + r2 = (q : Int) := ⟨(r * 256 + r2).toNat, by omega⟩
      have hk0 : (k : Int) ≠ 0 := by omega
      have hq0 : 0 ≤ r * 256 + r2 := by omega
      have hq1 : r * 256 + r2 ≤ 100000 := by omega
      have ht : (r * 256 + r2) % (k : Int) = ((q % k : Nat) : Int) := by rw [hq]; rfl
      have Ht := hide ht
      clear hc2 hg2 HN2 hq ht
      go_wp2_with fail
      go_ret
      refine ⟨q % k, ?_, .inl (Nat.mod_lt _ (by omega)), HC.out, HG2.out⟩
      exact congrArg (fun z => Ending.returned (Value.int .i64 z)) Ht.out

set_option maxHeartbeats 1000000 in
theorem one_any (c n cp m k : Nat) (ad : Option Addr) (w : World) (hm : m + 2 ≤ 1000000) (hk : k ≤ 1000000) (hn : (n : Int) ≤ 9223372036854775807) (h : CU w c ad n cp m) :
    Calls Tryd.prog 27 #[.pointer (some ⟨c, 0, none⟩), .int .i64 (k : Int)] w fun e w' => ∃ r : Bool, e = .returned (.bool r) ∧ CU w' c ad n cp (m + 2) ∧ w.grownBy w' (some c) := by
  have HN := hide (pick_any c n cp m k ad w hm hk hn h)
  clear h
  go_enter Tryd.func27, Tryd.ntmps27
  go_wp2_with fail
  refine Calls.mono HN.out ?_
  rintro e w1 ⟨r, rfl, -, hc1, hg1⟩
  have HC := hide hc1
  have HG := hide hg1
  clear hc1 hg1 HN
  go_wp2_with fail
  go_ret
  exact ⟨_, rfl, HC.out, HG.out⟩

set_option maxRecDepth 20000 in
set_option maxHeartbeats 1000000 in
theorem among_any (c n cp m k g cc : Nat) (ad : Option Addr) (w : World) (hm : m + 2 ≤ 1000000) (hk0 : 0 < k) (hk : k ≤ 1000) (hn : (n : Int) ≤ 9223372036854775807) (h : CU w c ad n cp m) (hg : g ≠ c) (hgl : g < w.heap.size) (hr : ∀ i, i < k → ∃ v : Int, w.cell? ⟨g, i, none⟩ = some (.int .i64 v)) :
    Calls Tryd.prog 46 #[.pointer (some ⟨c, 0, none⟩), .slice (some ⟨g, 0, none⟩) k cc] w fun e w' => ∃ r : Int, e = .returned (.int .i64 r) ∧ CU w' c ad n cp (m + 2) ∧ w.grownBy w' (some c) := by
  have HN := hide (pick_any c n cp m k ad w hm (by omega) hn h)
  have HR := hide hr
  clear h hr
  go_enter Tryd.func46, Tryd.ntmps46
  go_wp2_with fail
  refine Calls.mono HN.out ?_
  rintro e w1 ⟨r, rfl, hrk, hc1, hg1⟩
  have hrk' : r < k := by omega
  obtain ⟨v, hv⟩ := HR.out r hrk'
  have hv1 := (World.cell?_of_block (a := ⟨g, r, none⟩) (hg1.block g hgl (fun e => by simp at e; omega))).trans hv
  have HC := hide hc1
  have HG := hide hg1
  have hlt : (r : Int) < (k : Int) := by omega
  have hr0 : (0 : Int) ≤ (r : Int) := by omega
  clear hc1 hg1 HN hv hrk
  go_wp2_with fail
  go_ret
  exact ⟨_, rfl, HC.out, HG.out⟩
end Go.Proofs.YthnkdlhkldcaoaaDoor.W

/-
  Parts told as cells: contracts of the cellsOnto methods and of goodCells. Conditions: as the theorems state.
-/
import Derived.Test.YtjmgnljjeogdlaaJac
import Derived.Deep.AppendLies
namespace Go.Proofs.Ytjmgnljjeogdlaa.W
open Go.ChangeShapes Go.WideShapes Go.ChangeAt Go.RowKit
set_option linter.unusedVariables false

/-- Cells in memory. -/
def cv : List Cc → List Value
  | [] => []
  | x :: l => .int .i64 x.k :: .int .i64 x.n :: cv l
theorem cv_len : ∀ l : List Cc, (cv l).length = l.length * 2
  | [] => rfl
  | x :: l => by simp [cv, cv_len l]; omega
theorem cv_app : ∀ a b : List Cc, cv (a ++ b) = cv a ++ cv b
  | [], b => rfl
  | x :: a, b => by simp [cv, cv_app a b]

theorem grownT {w w1 w2 : World} {r r' : Option Nat} (h1 : w.grownBy w1 r) (h2 : w1.grownBy w2 r') (hr : ∀ k, r' = some k → r = some k ∨ w.heap.size ≤ k) : w.grownBy w2 r :=
  ⟨h2.os.trans h1.os, h2.tape.trans h1.tape, h2.output.trans h1.output, Nat.le_trans h1.size h2.size, fun k hk hne => (h2.block k (Nat.lt_of_lt_of_le hk h1.size) (fun e => by
    rcases hr k e.symm with h | h
    · exact hne h.symm
    · omega)).trans (h1.block k hk hne)⟩
theorem apartT {w w1 : World} {v v1 v2 : Value} (h1 : Apart w v v1) (h2 : Apart w1 v1 v2) (hs : w.heap.size ≤ w1.heap.size) : Apart w v v2 := fun g hg => by
  rcases h2 g hg with h | h
  · exact h1 g h
  · exact .inr (by omega)
theorem apart_ne {w1 : World} {v1 v2 : Value} {x : Nat} (ha : Apart w1 v1 v2) (hn : ∀ k, v1.ownBlock = some k → k ≠ x) (hx : x < w1.heap.size) : ∀ k, v2.ownBlock = some k → k ≠ x := fun k hk => by
  rcases ha k hk with h | h
  · exact hn k h
  · omega
theorem lies_ne {ad : Option Addr} {n c g n' c' x H : Nat} (hat : (Value.slice ad n c).ownBlock = some g ∨ g = H) (hol : ∀ k, (Value.slice ad n c).ownBlock = some k → k < x) (hH : x < H) : ∀ k, (Value.slice (some ⟨g, 0, none⟩) n' c').ownBlock = some k → k ≠ x := fun k hk => by
  simp only [Value.ownBlock, Option.some.injEq] at hk
  subst hk
  rcases hat with h | h
  · have := hol _ h; omega
  · omega
theorem lies_apart {w : World} {ad : Option Addr} {n c g n' c' H : Nat} (hat : (Value.slice ad n c).ownBlock = some g ∨ g = H) (hH : w.heap.size ≤ H) : Apart w (.slice ad n c) (.slice (some ⟨g, 0, none⟩) n' c') := fun k hk => by
  simp only [Value.ownBlock, Option.some.injEq] at hk
  subst hk
  rcases hat with h | h
  · exact .inl h
  · right; omega
theorem grownA (w : World) (o : Obj) (r : Option Nat) : w.grownBy (w.alloc o) r := World.grownBy_alloc w o r
theorem grownD {w w' : World} {r : Option Nat} (h : w.grownBy w' r) : w.grownBy w'.drew r := ⟨h.os, h.tape, h.output, h.size, h.block⟩

/-- A part whose method tells these cells behind those that are told. -/
def MC (V : Value) (cs : List Cc) : Prop := ∃ T u f, V = .iface T u ∧ (∀ w, (method 245 T u "loop.example/g00339/impl.cellsOnto").run Try.prog w = .ok (f, u) w) ∧ (∀ args w, (callFunc f args).run Try.prog w = .ok (.enter f args) w) ∧
  ∀ (base n : Nat) (xs : List Value) (v : Value) (w : World), w.ownsRow base 62 2 v n xs → n + cs.length ≤ 1048576 → base ≤ w.heap.size →
    Calls Try.prog f #[u, v] w fun e w' => ∃ v', e = .returned v' ∧ w'.ownsRow base 62 2 v' (n + cs.length) (xs ++ cv cs) ∧ w.grownBy w' v.ownBlock ∧ Apart w v v'

theorem c2_one (k n : Int) : ∀ u ∈ [Value.int .i64 k, .int .i64 n], u.oneCell' = true := by
  intro u hu
  simp only [List.mem_cons, List.not_mem_nil, or_false] at hu
  rcases hu with rfl | rfl <;> rfl
theorem c2_news {w : World} {g : Nat} {k n : Int} {t : TypeId} (h : w.heap[g]? = some (.cells #[.int .i64 k, .int .i64 n] t (0, 0))) : ∀ j u, [Value.int .i64 k, .int .i64 n][j]? = some u → w.cell? ((⟨g, 0, none⟩ : Addr).add j) = some u := by
  intro j u hu
  rw [iAdd, Nat.zero_add, cell_of_blk h, ← hu]
  simp

theorem cm_var (u : Value) (w : World) : (method 245 69 u "loop.example/g00339/impl.cellsOnto").run Try.prog w = .ok (101, u) w := by kernel_rfl
theorem cf_var (args : Array Value) (w : World) : (callFunc 101 args).run Try.prog w = .ok (.enter 101 args) w := by kernel_rfl
theorem cm_num (u : Value) (w : World) : (method 245 125 u "loop.example/g00339/impl.cellsOnto").run Try.prog w = .ok (107, u) w := by kernel_rfl
theorem cf_num (args : Array Value) (w : World) : (callFunc 107 args).run Try.prog w = .ok (.enter 107 args) w := by kernel_rfl
theorem cm_lam (u : Value) (w : World) : (method 245 100 u "loop.example/g00339/impl.cellsOnto").run Try.prog w = .ok (102, u) w := by kernel_rfl
theorem cf_lam (args : Array Value) (w : World) : (callFunc 102 args).run Try.prog w = .ok (.enter 102 args) w := by kernel_rfl
theorem cm_app (u : Value) (w : World) : (method 245 102 u "loop.example/g00339/impl.cellsOnto").run Try.prog w = .ok (103, u) w := by kernel_rfl
theorem cf_app (args : Array Value) (w : World) : (callFunc 103 args).run Try.prog w = .ok (.enter 103 args) w := by kernel_rfl
theorem cm_add (u : Value) (w : World) : (method 245 104 u "loop.example/g00339/impl.cellsOnto").run Try.prog w = .ok (104, u) w := by kernel_rfl
theorem cf_add (args : Array Value) (w : World) : (callFunc 104 args).run Try.prog w = .ok (.enter 104 args) w := by kernel_rfl
theorem cm_if (u : Value) (w : World) : (method 245 106 u "loop.example/g00339/impl.cellsOnto").run Try.prog w = .ok (105, u) w := by kernel_rfl
theorem cf_if (args : Array Value) (w : World) : (callFunc 105 args).run Try.prog w = .ok (.enter 105 args) w := by kernel_rfl
theorem cm_let (u : Value) (w : World) : (method 245 108 u "loop.example/g00339/impl.cellsOnto").run Try.prog w = .ok (106, u) w := by kernel_rfl
theorem cf_let (args : Array Value) (w : World) : (callFunc 106 args).run Try.prog w = .ok (.enter 106 args) w := by kernel_rfl

set_option maxRecDepth 20000 in
set_option maxHeartbeats 1000000 in
theorem mc_var (k : Int) (base n : Nat) (xs : List Value) (v : Value) (w : World) (hown : w.ownsRow base 62 2 v n xs) (hn : n + 1 ≤ 1048576) (hb : base ≤ w.heap.size) :
    Calls Try.prog 101 #[.agg #[.int .i64 k], v] w fun e w' => ∃ v', e = .returned v' ∧ w'.ownsRow base 62 2 v' (n + 1) (xs ++ cv [⟨1, k⟩]) ∧ w.grownBy w' v.ownBlock ∧ Apart w v v' := by
  obtain ⟨i0, hi0, hz0, hz1, hz2⟩ := infoPartsT infoCe
  have Hi := hide hi0
  have HO := hide hown
  obtain ⟨ad, c, rfl⟩ := iOwn_form hown
  have M1 : Hid (n + 1 ≤ maxLen) := hide (by unfold maxLen; omega)
  clear hi0 hown
  go_enter Try.func101, Try.ntmps101
  go_wp2_with (at_builtin; refine wpList_append_sep rfl _ _ 23 rfl base 62 i0 (.agg #[.int .i64 0, .int .i64 0]) 2 16 Try.underlying23 Hi.out hz0 hz1 hz2 rfl (by decide) _ n xs rfl ((HO.out.alloc _).alloc _) ⟨w.heap.size + 1, 0, none⟩ 1 1 [.int .i64 1, .int .i64 k] rfl rfl (c2_news (by have := heap_alloc_new (w.alloc (.cells #[.int .i64 k] 69)) (.cells #[.int .i64 1, .int .i64 k] 62); simpa using this)) (c2_one _ _) M1.out (by omega) (by simp; omega) ?_)
  intro v' w2 hown2 hgrow2 hap2
  obtain ⟨ad2, c2, rfl⟩ := iOwn_form hown2
  have HO2 := hide hown2
  have HG2 := hide (grownT ((grownA w (.cells #[.int .i64 k] 69) _)) (grownT (grownA _ (.cells #[.int .i64 1, .int .i64 k] 62) _) hgrow2 (fun k hk => .inl hk)) (fun k hk => .inl hk))
  have HA2 : Hid (Apart w (.slice ad n c) (.slice ad2 (n + 1) c2)) := hide (fun g hg => by
    rcases hap2 g hg with h | h
    · exact .inl h
    · right; simp at h; omega)
  clear hown2 hgrow2 hap2
  go_wp2_with fail
  go_ret
  exact ⟨_, rfl, HO2.out, HG2.out, HA2.out⟩

set_option maxRecDepth 20000 in
set_option maxHeartbeats 1000000 in
theorem mc_num (k : Int) (base n : Nat) (xs : List Value) (v : Value) (w : World) (hown : w.ownsRow base 62 2 v n xs) (hn : n + 1 ≤ 1048576) (hb : base ≤ w.heap.size) :
    Calls Try.prog 107 #[.agg #[.int .i64 k], v] w fun e w' => ∃ v', e = .returned v' ∧ w'.ownsRow base 62 2 v' (n + 1) (xs ++ cv [⟨2, k⟩]) ∧ w.grownBy w' v.ownBlock ∧ Apart w v v' := by
  obtain ⟨i0, hi0, hz0, hz1, hz2⟩ := infoPartsT infoCe
  have Hi := hide hi0
  have HO := hide hown
  obtain ⟨ad, c, rfl⟩ := iOwn_form hown
  have M1 : Hid (n + 1 ≤ maxLen) := hide (by unfold maxLen; omega)
  clear hi0 hown
  go_enter Try.func107, Try.ntmps107
  go_wp2_with (at_builtin; refine wpList_append_sep rfl _ _ 23 rfl base 62 i0 (.agg #[.int .i64 0, .int .i64 0]) 2 16 Try.underlying23 Hi.out hz0 hz1 hz2 rfl (by decide) _ n xs rfl ((HO.out.alloc _).alloc _) ⟨w.heap.size + 1, 0, none⟩ 1 1 [.int .i64 2, .int .i64 k] rfl rfl (c2_news (by have := heap_alloc_new (w.alloc (.cells #[.int .i64 k] 125)) (.cells #[.int .i64 2, .int .i64 k] 62); simpa using this)) (c2_one _ _) M1.out (by omega) (by simp; omega) ?_)
  intro v' w2 hown2 hgrow2 hap2
  obtain ⟨ad2, c2, rfl⟩ := iOwn_form hown2
  have HO2 := hide hown2
  have HG2 := hide (grownT ((grownA w (.cells #[.int .i64 k] 125) _)) (grownT (grownA _ (.cells #[.int .i64 2, .int .i64 k] 62) _) hgrow2 (fun k hk => .inl hk)) (fun k hk => .inl hk))
  have HA2 : Hid (Apart w (.slice ad n c) (.slice ad2 (n + 1) c2)) := hide (fun g hg => by
    rcases hap2 g hg with h | h
    · exact .inl h
    · right; simp at h; omega)
  clear hown2 hgrow2 hap2
  go_wp2_with fail
  go_ret
  exact ⟨_, rfl, HO2.out, HG2.out, HA2.out⟩

set_option maxRecDepth 20000 in
set_option maxHeartbeats 4000000 in
theorem mc_lam (V0 : Value) (c0 : List Cc) (h0 : MC V0 c0) (base n : Nat) (xs : List Value) (v : Value) (w : World) (hown : w.ownsRow base 62 2 v n xs) (hn : n + (1 + c0.length) ≤ 1048576) (hb : base ≤ w.heap.size) :
    Calls Try.prog 102 #[.agg #[V0], v] w fun e w' => ∃ v', e = .returned v' ∧ w'.ownsRow base 62 2 v' (n + (1 + c0.length)) (xs ++ cv (⟨3, 0⟩ :: (c0))) ∧ w.grownBy w' v.ownBlock ∧ Apart w v v' := by
  obtain ⟨T0, u0, f0, rfl, hm0, hf0, hc0⟩ := h0
  have HC0 := hide hc0
  obtain ⟨i0, hi0, hz0, hz1, hz2⟩ := infoPartsT infoCe
  have Hi := hide hi0
  have HO := hide hown
  obtain ⟨ad, c, rfl⟩ := iOwn_form hown
  have hol : ∀ k, (Value.slice ad n c).ownBlock = some k → k < w.heap.size := fun k hk => (HO.out.lt k hk).2
  have HOL := hide hol
  have M1 : Hid (n + 1 ≤ maxLen) := hide (by unfold maxLen; omega)
  clear hi0 hown hol hc0
  go_enter Try.func102, Try.ntmps102
  go_wp2_with fail
  obtain ⟨w0, hw0⟩ : ∃ w0, w0 = w.alloc (.cells #[.iface T0 u0] 100) := ⟨_, rfl⟩
  rw [← hw0]
  have hb0 : w0.heap[w.heap.size]? = some (.cells #[.iface T0 u0] 100) := by rw [hw0]; exact heap_alloc_new _ _
  have hsz0 : w0.heap.size = w.heap.size + 1 := by rw [hw0]; simp
  have hg0 : w.grownBy w0 (Value.slice ad n c).ownBlock := by rw [hw0]; exact grownA _ _ _
  have e0 : w0.cell? ⟨w.heap.size, 0, none⟩ = some (.iface T0 u0) := (cell_of_blk hb0 0).trans rfl
  have hO0 : ((w0.alloc (.cells #[.int .i64 3, .int .i64 0] 62)).drew).ownsRow base 62 2 (.slice ad n c) n xs := by
    have h1 : w0.ownsRow base 62 2 (.slice ad n c) n xs := by have := (HO.out.alloc (.cells #[.iface T0 u0] 100)); rw [← hw0] at this; exact this
    exact h1.alloc (.cells #[.int .i64 3, .int .i64 0] 62)
  have HO0 := hide hO0
  have HG0 := hide hg0
  have HNw : Hid (∀ j u, [Value.int .i64 3, .int .i64 0][j]? = some u → ((w0.alloc (.cells #[.int .i64 3, .int .i64 0] 62)).drew).cell? ((⟨w0.heap.size, 0, none⟩ : Addr).add j) = some u) := hide (c2_news (w := (w0.alloc _).drew) (heap_alloc_new w0 _))
  have HB1 : Hid (base ≤ ((w0.alloc (.cells #[.int .i64 3, .int .i64 0] 62)).drew).heap.size) := hide (by show base ≤ (w0.alloc _).heap.size; simp; omega)
  have Hle0 : Hid (n + 1 + c0.length ≤ 1048576) := hide (by omega)
  have HH1 : Hid (w.heap.size < ((w0.alloc (.cells #[.int .i64 3, .int .i64 0] 62)).drew).heap.size) := hide (by show w.heap.size < (w0.alloc _).heap.size; simp; omega)
  have HSz := hide hsz0
  clear hw0 hb0 hO0 hg0 hsz0
  go_region_held3 (fun w' => w'.cell? ⟨w.heap.size, 0, none⟩ = some (.iface T0 u0)) (go_keep)
    (first
      | (refine step_append_lies _ rfl _ _ 23 rfl base 62 i0 (.agg #[.int .i64 0, .int .i64 0]) 2 16 Try.underlying23 Hi.out hz0 hz1 hz2 rfl (by decide) _ n xs rfl HO0.out ⟨w0.heap.size, 0, none⟩ 1 1 [.int .i64 3, .int .i64 0] rfl rfl HNw.out (c2_one _ _) (by omega) M1.out (by omega) HB1.out _ rfl ?_; intro g1 cap1 w1 hown1 hgrow1 hat1 hlt1; have e0_1 := hgrow1.cell (show ((w0.alloc (.cells #[.int .i64 3, .int .i64 0] 62)).drew).cell? ⟨w.heap.size, 0, none⟩ = some (.iface T0 u0) by simp [*]) (fun e => by have := HOL.out w.heap.size e.symm; omega); have HO1 := hide hown1; have HG1 := hide hgrow1; have HB1 : Hid (base ≤ w1.heap.size) := hide (Nat.le_trans HB1.out hgrow1.size); have HN1 : Hid (∀ k, (Value.slice (some ⟨g1, 0, none⟩) (n + 1) cap1).ownBlock = some k → k ≠ w.heap.size) := hide (lies_ne hat1 HOL.out HH1.out); have HL1 : Hid (w.heap.size < w1.heap.size) := hide (Nat.lt_of_lt_of_le HH1.out hgrow1.size); have HT1 : Hid (Apart w (.slice ad n c) (.slice (some ⟨g1, 0, none⟩) (n + 1) cap1)) := hide (lies_apart hat1 (Nat.le_of_lt HH1.out)); clear hown1 hgrow1 hat1)
      | ((with_reducible refine Calls.mono (HC0.out base _ _ _ w1 HO1.out (Hle0.out) HB1.out) ?_); rintro e w2 ⟨v2, rfl, ho2, hg2, ha2⟩; obtain ⟨a2, k2, rfl⟩ := iOwn_form ho2; have HO2 := hide ho2; have HG2 := hide hg2; have HA2 := hide ha2; have HB2 : Hid (base ≤ w2.heap.size) := hide (Nat.le_trans HB1.out hg2.size); have HN2 : Hid (∀ k, (Value.slice a2 (n + 1 + c0.length) k2).ownBlock = some k → k ≠ w.heap.size) := hide (apart_ne ha2 HN1.out HL1.out); have HL2 : Hid (w.heap.size < w2.heap.size) := hide (Nat.lt_of_lt_of_le HL1.out hg2.size); have e0_2 := hg2.cell e0_1 (fun e => absurd rfl (HN1.out w.heap.size e.symm)); clear ho2 hg2 ha2))
  go_wp2_with fail
  go_ret
  have hsz := HSz.out
  have hA1 := HT1.out
  have G1 : w.grownBy w1 (Value.slice ad n c).ownBlock := grownT HG0.out (grownT (grownD (grownA w0 _ _)) HG1.out (fun k hk => .inl hk)) (fun k hk => .inl hk)
  have G2 : w.grownBy w2 (Value.slice ad n c).ownBlock := grownT G1 HG2.out hA1
  have hA2 := apartT hA1 HA2.out G1.size
  refine ⟨_, rfl, ?_, G2, hA2⟩
  have h3 := HO2.out
  have e1 : n + (1 + c0.length) = n + 1 + c0.length := by omega
  have e2 : xs ++ cv (⟨3, 0⟩ :: (c0)) = xs ++ [.int .i64 3, .int .i64 0] ++ cv c0 := by simp [cv]
  rw [e1, e2]
  exact h3

set_option maxRecDepth 20000 in
set_option maxHeartbeats 4000000 in
theorem mc_app (V0 : Value) (c0 : List Cc) (h0 : MC V0 c0) (V1 : Value) (c1 : List Cc) (h1 : MC V1 c1) (base n : Nat) (xs : List Value) (v : Value) (w : World) (hown : w.ownsRow base 62 2 v n xs) (hn : n + (1 + c0.length + c1.length) ≤ 1048576) (hb : base ≤ w.heap.size) :
    Calls Try.prog 103 #[.agg #[V0, V1], v] w fun e w' => ∃ v', e = .returned v' ∧ w'.ownsRow base 62 2 v' (n + (1 + c0.length + c1.length)) (xs ++ cv (⟨4, 0⟩ :: (c0 ++ c1))) ∧ w.grownBy w' v.ownBlock ∧ Apart w v v' := by
  obtain ⟨T0, u0, f0, rfl, hm0, hf0, hc0⟩ := h0
  have HC0 := hide hc0
  obtain ⟨T1, u1, f1, rfl, hm1, hf1, hc1⟩ := h1
  have HC1 := hide hc1
  obtain ⟨i0, hi0, hz0, hz1, hz2⟩ := infoPartsT infoCe
  have Hi := hide hi0
  have HO := hide hown
  obtain ⟨ad, c, rfl⟩ := iOwn_form hown
  have hol : ∀ k, (Value.slice ad n c).ownBlock = some k → k < w.heap.size := fun k hk => (HO.out.lt k hk).2
  have HOL := hide hol
  have M1 : Hid (n + 1 ≤ maxLen) := hide (by unfold maxLen; omega)
  clear hi0 hown hol hc0 hc1
  go_enter Try.func103, Try.ntmps103
  go_wp2_with fail
  obtain ⟨w0, hw0⟩ : ∃ w0, w0 = w.alloc (.cells #[.iface T0 u0, .iface T1 u1] 102) := ⟨_, rfl⟩
  rw [← hw0]
  have hb0 : w0.heap[w.heap.size]? = some (.cells #[.iface T0 u0, .iface T1 u1] 102) := by rw [hw0]; exact heap_alloc_new _ _
  have hsz0 : w0.heap.size = w.heap.size + 1 := by rw [hw0]; simp
  have hg0 : w.grownBy w0 (Value.slice ad n c).ownBlock := by rw [hw0]; exact grownA _ _ _
  have e0 : w0.cell? ⟨w.heap.size, 0, none⟩ = some (.iface T0 u0) := (cell_of_blk hb0 0).trans rfl
  have e1 : w0.cell? ⟨w.heap.size, 1, none⟩ = some (.iface T1 u1) := (cell_of_blk hb0 1).trans rfl
  have hO0 : ((w0.alloc (.cells #[.int .i64 4, .int .i64 0] 62)).drew).ownsRow base 62 2 (.slice ad n c) n xs := by
    have h1 : w0.ownsRow base 62 2 (.slice ad n c) n xs := by have := (HO.out.alloc (.cells #[.iface T0 u0, .iface T1 u1] 102)); rw [← hw0] at this; exact this
    exact h1.alloc (.cells #[.int .i64 4, .int .i64 0] 62)
  have HO0 := hide hO0
  have HG0 := hide hg0
  have HNw : Hid (∀ j u, [Value.int .i64 4, .int .i64 0][j]? = some u → ((w0.alloc (.cells #[.int .i64 4, .int .i64 0] 62)).drew).cell? ((⟨w0.heap.size, 0, none⟩ : Addr).add j) = some u) := hide (c2_news (w := (w0.alloc _).drew) (heap_alloc_new w0 _))
  have HB1 : Hid (base ≤ ((w0.alloc (.cells #[.int .i64 4, .int .i64 0] 62)).drew).heap.size) := hide (by show base ≤ (w0.alloc _).heap.size; simp; omega)
  have Hle0 : Hid (n + 1 + c0.length ≤ 1048576) := hide (by omega)
  have Hle1 : Hid (n + 1 + c0.length + c1.length ≤ 1048576) := hide (by omega)
  have HH1 : Hid (w.heap.size < ((w0.alloc (.cells #[.int .i64 4, .int .i64 0] 62)).drew).heap.size) := hide (by show w.heap.size < (w0.alloc _).heap.size; simp; omega)
  have HSz := hide hsz0
  clear hw0 hb0 hO0 hg0 hsz0
  go_region_held3 (fun w' => w'.cell? ⟨w.heap.size, 0, none⟩ = some (.iface T0 u0) ∧ w'.cell? ⟨w.heap.size, 1, none⟩ = some (.iface T1 u1)) (go_keep)
    (first
      | (refine step_append_lies _ rfl _ _ 23 rfl base 62 i0 (.agg #[.int .i64 0, .int .i64 0]) 2 16 Try.underlying23 Hi.out hz0 hz1 hz2 rfl (by decide) _ n xs rfl HO0.out ⟨w0.heap.size, 0, none⟩ 1 1 [.int .i64 4, .int .i64 0] rfl rfl HNw.out (c2_one _ _) (by omega) M1.out (by omega) HB1.out _ rfl ?_; intro g1 cap1 w1 hown1 hgrow1 hat1 hlt1; have e0_1 := hgrow1.cell (show ((w0.alloc (.cells #[.int .i64 4, .int .i64 0] 62)).drew).cell? ⟨w.heap.size, 0, none⟩ = some (.iface T0 u0) by simp [*]) (fun e => by have := HOL.out w.heap.size e.symm; omega); have e1_1 := hgrow1.cell (show ((w0.alloc (.cells #[.int .i64 4, .int .i64 0] 62)).drew).cell? ⟨w.heap.size, 1, none⟩ = some (.iface T1 u1) by simp [*]) (fun e => by have := HOL.out w.heap.size e.symm; omega); have HO1 := hide hown1; have HG1 := hide hgrow1; have HB1 : Hid (base ≤ w1.heap.size) := hide (Nat.le_trans HB1.out hgrow1.size); have HN1 : Hid (∀ k, (Value.slice (some ⟨g1, 0, none⟩) (n + 1) cap1).ownBlock = some k → k ≠ w.heap.size) := hide (lies_ne hat1 HOL.out HH1.out); have HL1 : Hid (w.heap.size < w1.heap.size) := hide (Nat.lt_of_lt_of_le HH1.out hgrow1.size); have HT1 : Hid (Apart w (.slice ad n c) (.slice (some ⟨g1, 0, none⟩) (n + 1) cap1)) := hide (lies_apart hat1 (Nat.le_of_lt HH1.out)); clear hown1 hgrow1 hat1)
      | ((with_reducible refine Calls.mono (HC0.out base _ _ _ w1 HO1.out (Hle0.out) HB1.out) ?_); rintro e w2 ⟨v2, rfl, ho2, hg2, ha2⟩; obtain ⟨a2, k2, rfl⟩ := iOwn_form ho2; have HO2 := hide ho2; have HG2 := hide hg2; have HA2 := hide ha2; have HB2 : Hid (base ≤ w2.heap.size) := hide (Nat.le_trans HB1.out hg2.size); have HN2 : Hid (∀ k, (Value.slice a2 (n + 1 + c0.length) k2).ownBlock = some k → k ≠ w.heap.size) := hide (apart_ne ha2 HN1.out HL1.out); have HL2 : Hid (w.heap.size < w2.heap.size) := hide (Nat.lt_of_lt_of_le HL1.out hg2.size); have e0_2 := hg2.cell e0_1 (fun e => absurd rfl (HN1.out w.heap.size e.symm)); have e1_2 := hg2.cell e1_1 (fun e => absurd rfl (HN1.out w.heap.size e.symm)); clear ho2 hg2 ha2)
      | ((with_reducible refine Calls.mono (HC1.out base _ _ _ w2 HO2.out (Hle1.out) HB2.out) ?_); rintro e w3 ⟨v3, rfl, ho3, hg3, ha3⟩; obtain ⟨a3, k3, rfl⟩ := iOwn_form ho3; have HO3 := hide ho3; have HG3 := hide hg3; have HA3 := hide ha3; have HB3 : Hid (base ≤ w3.heap.size) := hide (Nat.le_trans HB2.out hg3.size); have HN3 : Hid (∀ k, (Value.slice a3 (n + 1 + c0.length + c1.length) k3).ownBlock = some k → k ≠ w.heap.size) := hide (apart_ne ha3 HN2.out HL2.out); have HL3 : Hid (w.heap.size < w3.heap.size) := hide (Nat.lt_of_lt_of_le HL2.out hg3.size); have e0_3 := hg3.cell e0_2 (fun e => absurd rfl (HN2.out w.heap.size e.symm)); have e1_3 := hg3.cell e1_2 (fun e => absurd rfl (HN2.out w.heap.size e.symm)); clear ho3 hg3 ha3))
  go_wp2_with fail
  go_ret
  have hsz := HSz.out
  have hA1 := HT1.out
  have G1 : w.grownBy w1 (Value.slice ad n c).ownBlock := grownT HG0.out (grownT (grownD (grownA w0 _ _)) HG1.out (fun k hk => .inl hk)) (fun k hk => .inl hk)
  have G2 : w.grownBy w2 (Value.slice ad n c).ownBlock := grownT G1 HG2.out hA1
  have hA2 := apartT hA1 HA2.out G1.size
  have G3 : w.grownBy w3 (Value.slice ad n c).ownBlock := grownT G2 HG3.out hA2
  have hA3 := apartT hA2 HA3.out G2.size
  refine ⟨_, rfl, ?_, G3, hA3⟩
  have h3 := HO3.out
  have e1 : n + (1 + c0.length + c1.length) = n + 1 + c0.length + c1.length := by omega
  have e2 : xs ++ cv (⟨4, 0⟩ :: (c0 ++ c1)) = xs ++ [.int .i64 4, .int .i64 0] ++ cv c0 ++ cv c1 := by simp [cv, cv_app]
  rw [e1, e2]
  exact h3

set_option maxRecDepth 20000 in
set_option maxHeartbeats 4000000 in
theorem mc_add (V0 : Value) (c0 : List Cc) (h0 : MC V0 c0) (V1 : Value) (c1 : List Cc) (h1 : MC V1 c1) (base n : Nat) (xs : List Value) (v : Value) (w : World) (hown : w.ownsRow base 62 2 v n xs) (hn : n + (1 + c0.length + c1.length) ≤ 1048576) (hb : base ≤ w.heap.size) :
    Calls Try.prog 104 #[.agg #[V0, V1], v] w fun e w' => ∃ v', e = .returned v' ∧ w'.ownsRow base 62 2 v' (n + (1 + c0.length + c1.length)) (xs ++ cv (⟨5, 0⟩ :: (c0 ++ c1))) ∧ w.grownBy w' v.ownBlock ∧ Apart w v v' := by
  obtain ⟨T0, u0, f0, rfl, hm0, hf0, hc0⟩ := h0
  have HC0 := hide hc0
  obtain ⟨T1, u1, f1, rfl, hm1, hf1, hc1⟩ := h1
  have HC1 := hide hc1
  obtain ⟨i0, hi0, hz0, hz1, hz2⟩ := infoPartsT infoCe
  have Hi := hide hi0
  have HO := hide hown
  obtain ⟨ad, c, rfl⟩ := iOwn_form hown
  have hol : ∀ k, (Value.slice ad n c).ownBlock = some k → k < w.heap.size := fun k hk => (HO.out.lt k hk).2
  have HOL := hide hol
  have M1 : Hid (n + 1 ≤ maxLen) := hide (by unfold maxLen; omega)
  clear hi0 hown hol hc0 hc1
  go_enter Try.func104, Try.ntmps104
  go_wp2_with fail
  obtain ⟨w0, hw0⟩ : ∃ w0, w0 = w.alloc (.cells #[.iface T0 u0, .iface T1 u1] 104) := ⟨_, rfl⟩
  rw [← hw0]
  have hb0 : w0.heap[w.heap.size]? = some (.cells #[.iface T0 u0, .iface T1 u1] 104) := by rw [hw0]; exact heap_alloc_new _ _
  have hsz0 : w0.heap.size = w.heap.size + 1 := by rw [hw0]; simp
  have hg0 : w.grownBy w0 (Value.slice ad n c).ownBlock := by rw [hw0]; exact grownA _ _ _
  have e0 : w0.cell? ⟨w.heap.size, 0, none⟩ = some (.iface T0 u0) := (cell_of_blk hb0 0).trans rfl
  have e1 : w0.cell? ⟨w.heap.size, 1, none⟩ = some (.iface T1 u1) := (cell_of_blk hb0 1).trans rfl
  have hO0 : ((w0.alloc (.cells #[.int .i64 5, .int .i64 0] 62)).drew).ownsRow base 62 2 (.slice ad n c) n xs := by
    have h1 : w0.ownsRow base 62 2 (.slice ad n c) n xs := by have := (HO.out.alloc (.cells #[.iface T0 u0, .iface T1 u1] 104)); rw [← hw0] at this; exact this
    exact h1.alloc (.cells #[.int .i64 5, .int .i64 0] 62)
  have HO0 := hide hO0
  have HG0 := hide hg0
  have HNw : Hid (∀ j u, [Value.int .i64 5, .int .i64 0][j]? = some u → ((w0.alloc (.cells #[.int .i64 5, .int .i64 0] 62)).drew).cell? ((⟨w0.heap.size, 0, none⟩ : Addr).add j) = some u) := hide (c2_news (w := (w0.alloc _).drew) (heap_alloc_new w0 _))
  have HB1 : Hid (base ≤ ((w0.alloc (.cells #[.int .i64 5, .int .i64 0] 62)).drew).heap.size) := hide (by show base ≤ (w0.alloc _).heap.size; simp; omega)
  have Hle0 : Hid (n + 1 + c0.length ≤ 1048576) := hide (by omega)
  have Hle1 : Hid (n + 1 + c0.length + c1.length ≤ 1048576) := hide (by omega)
  have HH1 : Hid (w.heap.size < ((w0.alloc (.cells #[.int .i64 5, .int .i64 0] 62)).drew).heap.size) := hide (by show w.heap.size < (w0.alloc _).heap.size; simp; omega)
  have HSz := hide hsz0
  clear hw0 hb0 hO0 hg0 hsz0
  go_region_held3 (fun w' => w'.cell? ⟨w.heap.size, 0, none⟩ = some (.iface T0 u0) ∧ w'.cell? ⟨w.heap.size, 1, none⟩ = some (.iface T1 u1)) (go_keep)
    (first
      | (refine step_append_lies _ rfl _ _ 23 rfl base 62 i0 (.agg #[.int .i64 0, .int .i64 0]) 2 16 Try.underlying23 Hi.out hz0 hz1 hz2 rfl (by decide) _ n xs rfl HO0.out ⟨w0.heap.size, 0, none⟩ 1 1 [.int .i64 5, .int .i64 0] rfl rfl HNw.out (c2_one _ _) (by omega) M1.out (by omega) HB1.out _ rfl ?_; intro g1 cap1 w1 hown1 hgrow1 hat1 hlt1; have e0_1 := hgrow1.cell (show ((w0.alloc (.cells #[.int .i64 5, .int .i64 0] 62)).drew).cell? ⟨w.heap.size, 0, none⟩ = some (.iface T0 u0) by simp [*]) (fun e => by have := HOL.out w.heap.size e.symm; omega); have e1_1 := hgrow1.cell (show ((w0.alloc (.cells #[.int .i64 5, .int .i64 0] 62)).drew).cell? ⟨w.heap.size, 1, none⟩ = some (.iface T1 u1) by simp [*]) (fun e => by have := HOL.out w.heap.size e.symm; omega); have HO1 := hide hown1; have HG1 := hide hgrow1; have HB1 : Hid (base ≤ w1.heap.size) := hide (Nat.le_trans HB1.out hgrow1.size); have HN1 : Hid (∀ k, (Value.slice (some ⟨g1, 0, none⟩) (n + 1) cap1).ownBlock = some k → k ≠ w.heap.size) := hide (lies_ne hat1 HOL.out HH1.out); have HL1 : Hid (w.heap.size < w1.heap.size) := hide (Nat.lt_of_lt_of_le HH1.out hgrow1.size); have HT1 : Hid (Apart w (.slice ad n c) (.slice (some ⟨g1, 0, none⟩) (n + 1) cap1)) := hide (lies_apart hat1 (Nat.le_of_lt HH1.out)); clear hown1 hgrow1 hat1)
      | ((with_reducible refine Calls.mono (HC0.out base _ _ _ w1 HO1.out (Hle0.out) HB1.out) ?_); rintro e w2 ⟨v2, rfl, ho2, hg2, ha2⟩; obtain ⟨a2, k2, rfl⟩ := iOwn_form ho2; have HO2 := hide ho2; have HG2 := hide hg2; have HA2 := hide ha2; have HB2 : Hid (base ≤ w2.heap.size) := hide (Nat.le_trans HB1.out hg2.size); have HN2 : Hid (∀ k, (Value.slice a2 (n + 1 + c0.length) k2).ownBlock = some k → k ≠ w.heap.size) := hide (apart_ne ha2 HN1.out HL1.out); have HL2 : Hid (w.heap.size < w2.heap.size) := hide (Nat.lt_of_lt_of_le HL1.out hg2.size); have e0_2 := hg2.cell e0_1 (fun e => absurd rfl (HN1.out w.heap.size e.symm)); have e1_2 := hg2.cell e1_1 (fun e => absurd rfl (HN1.out w.heap.size e.symm)); clear ho2 hg2 ha2)
      | ((with_reducible refine Calls.mono (HC1.out base _ _ _ w2 HO2.out (Hle1.out) HB2.out) ?_); rintro e w3 ⟨v3, rfl, ho3, hg3, ha3⟩; obtain ⟨a3, k3, rfl⟩ := iOwn_form ho3; have HO3 := hide ho3; have HG3 := hide hg3; have HA3 := hide ha3; have HB3 : Hid (base ≤ w3.heap.size) := hide (Nat.le_trans HB2.out hg3.size); have HN3 : Hid (∀ k, (Value.slice a3 (n + 1 + c0.length + c1.length) k3).ownBlock = some k → k ≠ w.heap.size) := hide (apart_ne ha3 HN2.out HL2.out); have HL3 : Hid (w.heap.size < w3.heap.size) := hide (Nat.lt_of_lt_of_le HL2.out hg3.size); have e0_3 := hg3.cell e0_2 (fun e => absurd rfl (HN2.out w.heap.size e.symm)); have e1_3 := hg3.cell e1_2 (fun e => absurd rfl (HN2.out w.heap.size e.symm)); clear ho3 hg3 ha3))
  go_wp2_with fail
  go_ret
  have hsz := HSz.out
  have hA1 := HT1.out
  have G1 : w.grownBy w1 (Value.slice ad n c).ownBlock := grownT HG0.out (grownT (grownD (grownA w0 _ _)) HG1.out (fun k hk => .inl hk)) (fun k hk => .inl hk)
  have G2 : w.grownBy w2 (Value.slice ad n c).ownBlock := grownT G1 HG2.out hA1
  have hA2 := apartT hA1 HA2.out G1.size
  have G3 : w.grownBy w3 (Value.slice ad n c).ownBlock := grownT G2 HG3.out hA2
  have hA3 := apartT hA2 HA3.out G2.size
  refine ⟨_, rfl, ?_, G3, hA3⟩
  have h3 := HO3.out
  have e1 : n + (1 + c0.length + c1.length) = n + 1 + c0.length + c1.length := by omega
  have e2 : xs ++ cv (⟨5, 0⟩ :: (c0 ++ c1)) = xs ++ [.int .i64 5, .int .i64 0] ++ cv c0 ++ cv c1 := by simp [cv, cv_app]
  rw [e1, e2]
  exact h3

set_option maxRecDepth 20000 in
set_option maxHeartbeats 4000000 in
theorem mc_if (V0 : Value) (c0 : List Cc) (h0 : MC V0 c0) (V1 : Value) (c1 : List Cc) (h1 : MC V1 c1) (V2 : Value) (c2 : List Cc) (h2 : MC V2 c2) (base n : Nat) (xs : List Value) (v : Value) (w : World) (hown : w.ownsRow base 62 2 v n xs) (hn : n + (1 + c0.length + c1.length + c2.length) ≤ 1048576) (hb : base ≤ w.heap.size) :
    Calls Try.prog 105 #[.agg #[V0, V1, V2], v] w fun e w' => ∃ v', e = .returned v' ∧ w'.ownsRow base 62 2 v' (n + (1 + c0.length + c1.length + c2.length)) (xs ++ cv (⟨6, 0⟩ :: (c0 ++ c1 ++ c2))) ∧ w.grownBy w' v.ownBlock ∧ Apart w v v' := by
  obtain ⟨T0, u0, f0, rfl, hm0, hf0, hc0⟩ := h0
  have HC0 := hide hc0
  obtain ⟨T1, u1, f1, rfl, hm1, hf1, hc1⟩ := h1
  have HC1 := hide hc1
  obtain ⟨T2, u2, f2, rfl, hm2, hf2, hc2⟩ := h2
  have HC2 := hide hc2
  obtain ⟨i0, hi0, hz0, hz1, hz2⟩ := infoPartsT infoCe
  have Hi := hide hi0
  have HO := hide hown
  obtain ⟨ad, c, rfl⟩ := iOwn_form hown
  have hol : ∀ k, (Value.slice ad n c).ownBlock = some k → k < w.heap.size := fun k hk => (HO.out.lt k hk).2
  have HOL := hide hol
  have M1 : Hid (n + 1 ≤ maxLen) := hide (by unfold maxLen; omega)
  clear hi0 hown hol hc0 hc1 hc2
  go_enter Try.func105, Try.ntmps105
  go_wp2_with fail
  obtain ⟨w0, hw0⟩ : ∃ w0, w0 = w.alloc (.cells #[.iface T0 u0, .iface T1 u1, .iface T2 u2] 106) := ⟨_, rfl⟩
  rw [← hw0]
  have hb0 : w0.heap[w.heap.size]? = some (.cells #[.iface T0 u0, .iface T1 u1, .iface T2 u2] 106) := by rw [hw0]; exact heap_alloc_new _ _
  have hsz0 : w0.heap.size = w.heap.size + 1 := by rw [hw0]; simp
  have hg0 : w.grownBy w0 (Value.slice ad n c).ownBlock := by rw [hw0]; exact grownA _ _ _
  have e0 : w0.cell? ⟨w.heap.size, 0, none⟩ = some (.iface T0 u0) := (cell_of_blk hb0 0).trans rfl
  have e1 : w0.cell? ⟨w.heap.size, 1, none⟩ = some (.iface T1 u1) := (cell_of_blk hb0 1).trans rfl
  have e2 : w0.cell? ⟨w.heap.size, 2, none⟩ = some (.iface T2 u2) := (cell_of_blk hb0 2).trans rfl
  have hO0 : ((w0.alloc (.cells #[.int .i64 6, .int .i64 0] 62)).drew).ownsRow base 62 2 (.slice ad n c) n xs := by
    have h1 : w0.ownsRow base 62 2 (.slice ad n c) n xs := by have := (HO.out.alloc (.cells #[.iface T0 u0, .iface T1 u1, .iface T2 u2] 106)); rw [← hw0] at this; exact this
    exact h1.alloc (.cells #[.int .i64 6, .int .i64 0] 62)
  have HO0 := hide hO0
  have HG0 := hide hg0
  have HNw : Hid (∀ j u, [Value.int .i64 6, .int .i64 0][j]? = some u → ((w0.alloc (.cells #[.int .i64 6, .int .i64 0] 62)).drew).cell? ((⟨w0.heap.size, 0, none⟩ : Addr).add j) = some u) := hide (c2_news (w := (w0.alloc _).drew) (heap_alloc_new w0 _))
  have HB1 : Hid (base ≤ ((w0.alloc (.cells #[.int .i64 6, .int .i64 0] 62)).drew).heap.size) := hide (by show base ≤ (w0.alloc _).heap.size; simp; omega)
  have Hle0 : Hid (n + 1 + c0.length ≤ 1048576) := hide (by omega)
  have Hle1 : Hid (n + 1 + c0.length + c1.length ≤ 1048576) := hide (by omega)
  have Hle2 : Hid (n + 1 + c0.length + c1.length + c2.length ≤ 1048576) := hide (by omega)
  have HH1 : Hid (w.heap.size < ((w0.alloc (.cells #[.int .i64 6, .int .i64 0] 62)).drew).heap.size) := hide (by show w.heap.size < (w0.alloc _).heap.size; simp; omega)
  have HSz := hide hsz0
  clear hw0 hb0 hO0 hg0 hsz0
  go_region_held3 (fun w' => w'.cell? ⟨w.heap.size, 0, none⟩ = some (.iface T0 u0) ∧ w'.cell? ⟨w.heap.size, 1, none⟩ = some (.iface T1 u1) ∧ w'.cell? ⟨w.heap.size, 2, none⟩ = some (.iface T2 u2)) (go_keep)
    (first
      | (refine step_append_lies _ rfl _ _ 23 rfl base 62 i0 (.agg #[.int .i64 0, .int .i64 0]) 2 16 Try.underlying23 Hi.out hz0 hz1 hz2 rfl (by decide) _ n xs rfl HO0.out ⟨w0.heap.size, 0, none⟩ 1 1 [.int .i64 6, .int .i64 0] rfl rfl HNw.out (c2_one _ _) (by omega) M1.out (by omega) HB1.out _ rfl ?_; intro g1 cap1 w1 hown1 hgrow1 hat1 hlt1; have e0_1 := hgrow1.cell (show ((w0.alloc (.cells #[.int .i64 6, .int .i64 0] 62)).drew).cell? ⟨w.heap.size, 0, none⟩ = some (.iface T0 u0) by simp [*]) (fun e => by have := HOL.out w.heap.size e.symm; omega); have e1_1 := hgrow1.cell (show ((w0.alloc (.cells #[.int .i64 6, .int .i64 0] 62)).drew).cell? ⟨w.heap.size, 1, none⟩ = some (.iface T1 u1) by simp [*]) (fun e => by have := HOL.out w.heap.size e.symm; omega); have e2_1 := hgrow1.cell (show ((w0.alloc (.cells #[.int .i64 6, .int .i64 0] 62)).drew).cell? ⟨w.heap.size, 2, none⟩ = some (.iface T2 u2) by simp [*]) (fun e => by have := HOL.out w.heap.size e.symm; omega); have HO1 := hide hown1; have HG1 := hide hgrow1; have HB1 : Hid (base ≤ w1.heap.size) := hide (Nat.le_trans HB1.out hgrow1.size); have HN1 : Hid (∀ k, (Value.slice (some ⟨g1, 0, none⟩) (n + 1) cap1).ownBlock = some k → k ≠ w.heap.size) := hide (lies_ne hat1 HOL.out HH1.out); have HL1 : Hid (w.heap.size < w1.heap.size) := hide (Nat.lt_of_lt_of_le HH1.out hgrow1.size); have HT1 : Hid (Apart w (.slice ad n c) (.slice (some ⟨g1, 0, none⟩) (n + 1) cap1)) := hide (lies_apart hat1 (Nat.le_of_lt HH1.out)); clear hown1 hgrow1 hat1)
      | ((with_reducible refine Calls.mono (HC0.out base _ _ _ w1 HO1.out (Hle0.out) HB1.out) ?_); rintro e w2 ⟨v2, rfl, ho2, hg2, ha2⟩; obtain ⟨a2, k2, rfl⟩ := iOwn_form ho2; have HO2 := hide ho2; have HG2 := hide hg2; have HA2 := hide ha2; have HB2 : Hid (base ≤ w2.heap.size) := hide (Nat.le_trans HB1.out hg2.size); have HN2 : Hid (∀ k, (Value.slice a2 (n + 1 + c0.length) k2).ownBlock = some k → k ≠ w.heap.size) := hide (apart_ne ha2 HN1.out HL1.out); have HL2 : Hid (w.heap.size < w2.heap.size) := hide (Nat.lt_of_lt_of_le HL1.out hg2.size); have e0_2 := hg2.cell e0_1 (fun e => absurd rfl (HN1.out w.heap.size e.symm)); have e1_2 := hg2.cell e1_1 (fun e => absurd rfl (HN1.out w.heap.size e.symm)); have e2_2 := hg2.cell e2_1 (fun e => absurd rfl (HN1.out w.heap.size e.symm)); clear ho2 hg2 ha2)
      | ((with_reducible refine Calls.mono (HC1.out base _ _ _ w2 HO2.out (Hle1.out) HB2.out) ?_); rintro e w3 ⟨v3, rfl, ho3, hg3, ha3⟩; obtain ⟨a3, k3, rfl⟩ := iOwn_form ho3; have HO3 := hide ho3; have HG3 := hide hg3; have HA3 := hide ha3; have HB3 : Hid (base ≤ w3.heap.size) := hide (Nat.le_trans HB2.out hg3.size); have HN3 : Hid (∀ k, (Value.slice a3 (n + 1 + c0.length + c1.length) k3).ownBlock = some k → k ≠ w.heap.size) := hide (apart_ne ha3 HN2.out HL2.out); have HL3 : Hid (w.heap.size < w3.heap.size) := hide (Nat.lt_of_lt_of_le HL2.out hg3.size); have e0_3 := hg3.cell e0_2 (fun e => absurd rfl (HN2.out w.heap.size e.symm)); have e1_3 := hg3.cell e1_2 (fun e => absurd rfl (HN2.out w.heap.size e.symm)); have e2_3 := hg3.cell e2_2 (fun e => absurd rfl (HN2.out w.heap.size e.symm)); clear ho3 hg3 ha3)
      | ((with_reducible refine Calls.mono (HC2.out base _ _ _ w3 HO3.out (Hle2.out) HB3.out) ?_); rintro e w4 ⟨v4, rfl, ho4, hg4, ha4⟩; obtain ⟨a4, k4, rfl⟩ := iOwn_form ho4; have HO4 := hide ho4; have HG4 := hide hg4; have HA4 := hide ha4; have HB4 : Hid (base ≤ w4.heap.size) := hide (Nat.le_trans HB3.out hg4.size); have HN4 : Hid (∀ k, (Value.slice a4 (n + 1 + c0.length + c1.length + c2.length) k4).ownBlock = some k → k ≠ w.heap.size) := hide (apart_ne ha4 HN3.out HL3.out); have HL4 : Hid (w.heap.size < w4.heap.size) := hide (Nat.lt_of_lt_of_le HL3.out hg4.size); have e0_4 := hg4.cell e0_3 (fun e => absurd rfl (HN3.out w.heap.size e.symm)); have e1_4 := hg4.cell e1_3 (fun e => absurd rfl (HN3.out w.heap.size e.symm)); have e2_4 := hg4.cell e2_3 (fun e => absurd rfl (HN3.out w.heap.size e.symm)); clear ho4 hg4 ha4))
  go_wp2_with fail
  go_ret
  have hsz := HSz.out
  have hA1 := HT1.out
  have G1 : w.grownBy w1 (Value.slice ad n c).ownBlock := grownT HG0.out (grownT (grownD (grownA w0 _ _)) HG1.out (fun k hk => .inl hk)) (fun k hk => .inl hk)
  have G2 : w.grownBy w2 (Value.slice ad n c).ownBlock := grownT G1 HG2.out hA1
  have hA2 := apartT hA1 HA2.out G1.size
  have G3 : w.grownBy w3 (Value.slice ad n c).ownBlock := grownT G2 HG3.out hA2
  have hA3 := apartT hA2 HA3.out G2.size
  have G4 : w.grownBy w4 (Value.slice ad n c).ownBlock := grownT G3 HG4.out hA3
  have hA4 := apartT hA3 HA4.out G3.size
  refine ⟨_, rfl, ?_, G4, hA4⟩
  have h3 := HO4.out
  have e1 : n + (1 + c0.length + c1.length + c2.length) = n + 1 + c0.length + c1.length + c2.length := by omega
  have e2 : xs ++ cv (⟨6, 0⟩ :: (c0 ++ c1 ++ c2)) = xs ++ [.int .i64 6, .int .i64 0] ++ cv c0 ++ cv c1 ++ cv c2 := by simp [cv, cv_app]
  rw [e1, e2]
  exact h3

set_option maxRecDepth 20000 in
set_option maxHeartbeats 4000000 in
theorem mc_let (V0 : Value) (c0 : List Cc) (h0 : MC V0 c0) (V1 : Value) (c1 : List Cc) (h1 : MC V1 c1) (base n : Nat) (xs : List Value) (v : Value) (w : World) (hown : w.ownsRow base 62 2 v n xs) (hn : n + (1 + c0.length + c1.length) ≤ 1048576) (hb : base ≤ w.heap.size) :
    Calls Try.prog 106 #[.agg #[V0, V1], v] w fun e w' => ∃ v', e = .returned v' ∧ w'.ownsRow base 62 2 v' (n + (1 + c0.length + c1.length)) (xs ++ cv (⟨7, 0⟩ :: (c0 ++ c1))) ∧ w.grownBy w' v.ownBlock ∧ Apart w v v' := by
  obtain ⟨T0, u0, f0, rfl, hm0, hf0, hc0⟩ := h0
  have HC0 := hide hc0
  obtain ⟨T1, u1, f1, rfl, hm1, hf1, hc1⟩ := h1
  have HC1 := hide hc1
  obtain ⟨i0, hi0, hz0, hz1, hz2⟩ := infoPartsT infoCe
  have Hi := hide hi0
  have HO := hide hown
  obtain ⟨ad, c, rfl⟩ := iOwn_form hown
  have hol : ∀ k, (Value.slice ad n c).ownBlock = some k → k < w.heap.size := fun k hk => (HO.out.lt k hk).2
  have HOL := hide hol
  have M1 : Hid (n + 1 ≤ maxLen) := hide (by unfold maxLen; omega)
  clear hi0 hown hol hc0 hc1
  go_enter Try.func106, Try.ntmps106
  go_wp2_with fail
  obtain ⟨w0, hw0⟩ : ∃ w0, w0 = w.alloc (.cells #[.iface T0 u0, .iface T1 u1] 108) := ⟨_, rfl⟩
  rw [← hw0]
  have hb0 : w0.heap[w.heap.size]? = some (.cells #[.iface T0 u0, .iface T1 u1] 108) := by rw [hw0]; exact heap_alloc_new _ _
  have hsz0 : w0.heap.size = w.heap.size + 1 := by rw [hw0]; simp
  have hg0 : w.grownBy w0 (Value.slice ad n c).ownBlock := by rw [hw0]; exact grownA _ _ _
  have e0 : w0.cell? ⟨w.heap.size, 0, none⟩ = some (.iface T0 u0) := (cell_of_blk hb0 0).trans rfl
  have e1 : w0.cell? ⟨w.heap.size, 1, none⟩ = some (.iface T1 u1) := (cell_of_blk hb0 1).trans rfl
  have hO0 : ((w0.alloc (.cells #[.int .i64 7, .int .i64 0] 62)).drew).ownsRow base 62 2 (.slice ad n c) n xs := by
    have h1 : w0.ownsRow base 62 2 (.slice ad n c) n xs := by have := (HO.out.alloc (.cells #[.iface T0 u0, .iface T1 u1] 108)); rw [← hw0] at this; exact this
    exact h1.alloc (.cells #[.int .i64 7, .int .i64 0] 62)
  have HO0 := hide hO0
  have HG0 := hide hg0
  have HNw : Hid (∀ j u, [Value.int .i64 7, .int .i64 0][j]? = some u → ((w0.alloc (.cells #[.int .i64 7, .int .i64 0] 62)).drew).cell? ((⟨w0.heap.size, 0, none⟩ : Addr).add j) = some u) := hide (c2_news (w := (w0.alloc _).drew) (heap_alloc_new w0 _))
  have HB1 : Hid (base ≤ ((w0.alloc (.cells #[.int .i64 7, .int .i64 0] 62)).drew).heap.size) := hide (by show base ≤ (w0.alloc _).heap.size; simp; omega)
  have Hle0 : Hid (n + 1 + c0.length ≤ 1048576) := hide (by omega)
  have Hle1 : Hid (n + 1 + c0.length + c1.length ≤ 1048576) := hide (by omega)
  have HH1 : Hid (w.heap.size < ((w0.alloc (.cells #[.int .i64 7, .int .i64 0] 62)).drew).heap.size) := hide (by show w.heap.size < (w0.alloc _).heap.size; simp; omega)
  have HSz := hide hsz0
  clear hw0 hb0 hO0 hg0 hsz0
  go_region_held3 (fun w' => w'.cell? ⟨w.heap.size, 0, none⟩ = some (.iface T0 u0) ∧ w'.cell? ⟨w.heap.size, 1, none⟩ = some (.iface T1 u1)) (go_keep)
    (first
      | (refine step_append_lies _ rfl _ _ 23 rfl base 62 i0 (.agg #[.int .i64 0, .int .i64 0]) 2 16 Try.underlying23 Hi.out hz0 hz1 hz2 rfl (by decide) _ n xs rfl HO0.out ⟨w0.heap.size, 0, none⟩ 1 1 [.int .i64 7, .int .i64 0] rfl rfl HNw.out (c2_one _ _) (by omega) M1.out (by omega) HB1.out _ rfl ?_; intro g1 cap1 w1 hown1 hgrow1 hat1 hlt1; have e0_1 := hgrow1.cell (show ((w0.alloc (.cells #[.int .i64 7, .int .i64 0] 62)).drew).cell? ⟨w.heap.size, 0, none⟩ = some (.iface T0 u0) by simp [*]) (fun e => by have := HOL.out w.heap.size e.symm; omega); have e1_1 := hgrow1.cell (show ((w0.alloc (.cells #[.int .i64 7, .int .i64 0] 62)).drew).cell? ⟨w.heap.size, 1, none⟩ = some (.iface T1 u1) by simp [*]) (fun e => by have := HOL.out w.heap.size e.symm; omega); have HO1 := hide hown1; have HG1 := hide hgrow1; have HB1 : Hid (base ≤ w1.heap.size) := hide (Nat.le_trans HB1.out hgrow1.size); have HN1 : Hid (∀ k, (Value.slice (some ⟨g1, 0, none⟩) (n + 1) cap1).ownBlock = some k → k ≠ w.heap.size) := hide (lies_ne hat1 HOL.out HH1.out); have HL1 : Hid (w.heap.size < w1.heap.size) := hide (Nat.lt_of_lt_of_le HH1.out hgrow1.size); have HT1 : Hid (Apart w (.slice ad n c) (.slice (some ⟨g1, 0, none⟩) (n + 1) cap1)) := hide (lies_apart hat1 (Nat.le_of_lt HH1.out)); clear hown1 hgrow1 hat1)
      | ((with_reducible refine Calls.mono (HC0.out base _ _ _ w1 HO1.out (Hle0.out) HB1.out) ?_); rintro e w2 ⟨v2, rfl, ho2, hg2, ha2⟩; obtain ⟨a2, k2, rfl⟩ := iOwn_form ho2; have HO2 := hide ho2; have HG2 := hide hg2; have HA2 := hide ha2; have HB2 : Hid (base ≤ w2.heap.size) := hide (Nat.le_trans HB1.out hg2.size); have HN2 : Hid (∀ k, (Value.slice a2 (n + 1 + c0.length) k2).ownBlock = some k → k ≠ w.heap.size) := hide (apart_ne ha2 HN1.out HL1.out); have HL2 : Hid (w.heap.size < w2.heap.size) := hide (Nat.lt_of_lt_of_le HL1.out hg2.size); have e0_2 := hg2.cell e0_1 (fun e => absurd rfl (HN1.out w.heap.size e.symm)); have e1_2 := hg2.cell e1_1 (fun e => absurd rfl (HN1.out w.heap.size e.symm)); clear ho2 hg2 ha2)
      | ((with_reducible refine Calls.mono (HC1.out base _ _ _ w2 HO2.out (Hle1.out) HB2.out) ?_); rintro e w3 ⟨v3, rfl, ho3, hg3, ha3⟩; obtain ⟨a3, k3, rfl⟩ := iOwn_form ho3; have HO3 := hide ho3; have HG3 := hide hg3; have HA3 := hide ha3; have HB3 : Hid (base ≤ w3.heap.size) := hide (Nat.le_trans HB2.out hg3.size); have HN3 : Hid (∀ k, (Value.slice a3 (n + 1 + c0.length + c1.length) k3).ownBlock = some k → k ≠ w.heap.size) := hide (apart_ne ha3 HN2.out HL2.out); have HL3 : Hid (w.heap.size < w3.heap.size) := hide (Nat.lt_of_lt_of_le HL2.out hg3.size); have e0_3 := hg3.cell e0_2 (fun e => absurd rfl (HN2.out w.heap.size e.symm)); have e1_3 := hg3.cell e1_2 (fun e => absurd rfl (HN2.out w.heap.size e.symm)); clear ho3 hg3 ha3))
  go_wp2_with fail
  go_ret
  have hsz := HSz.out
  have hA1 := HT1.out
  have G1 : w.grownBy w1 (Value.slice ad n c).ownBlock := grownT HG0.out (grownT (grownD (grownA w0 _ _)) HG1.out (fun k hk => .inl hk)) (fun k hk => .inl hk)
  have G2 : w.grownBy w2 (Value.slice ad n c).ownBlock := grownT G1 HG2.out hA1
  have hA2 := apartT hA1 HA2.out G1.size
  have G3 : w.grownBy w3 (Value.slice ad n c).ownBlock := grownT G2 HG3.out hA2
  have hA3 := apartT hA2 HA3.out G2.size
  refine ⟨_, rfl, ?_, G3, hA3⟩
  have h3 := HO3.out
  have e1 : n + (1 + c0.length + c1.length) = n + 1 + c0.length + c1.length := by omega
  have e2 : xs ++ cv (⟨7, 0⟩ :: (c0 ++ c1)) = xs ++ [.int .i64 7, .int .i64 0] ++ cv c0 ++ cv c1 := by simp [cv, cv_app]
  rw [e1, e2]
  exact h3

end Go.Proofs.Ytjmgnljjeogdlaa.W

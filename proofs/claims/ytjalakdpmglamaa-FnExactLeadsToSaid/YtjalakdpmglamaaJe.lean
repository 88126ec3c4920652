/-
  Some texts of this proof in one: TeW, TeX.
-/
import Derived.Test.YtjalakdpmglamaaJd
import Derived.Deep.RegionHeld3
/-
  The walk over a term's variables: a contract of withVariables for any change of variables. Conditions: as the theorem states.
-/
namespace Go.Proofs.Ytjalakdpmglamaa.W
open Go.ChangeShapes Go.WideShapes Go.ChangeAt Go.RowKit
set_option linter.unusedVariables false

/-- How many a term of kind pk binds in its kid i. -/
def binds (pk : Int) (i : Nat) : Nat := if pk = 3 ∨ (pk = 7 ∧ i = 1) then 1 else 0
theorem binds_le (pk : Int) (i : Nat) : binds pk i ≤ 1 := by unfold binds; split <;> omega

section
variable {σ : Type} (g : σ → Int → Nat → F) (st : σ → Int → Nat → σ)
/-- Terms (the kids from i on of a term of kind pk, with d bound around it) with their variables changed, from left to right. -/
def wv (pk : Int) (d : Nat) : Nat → F → σ → F × σ
  | _, .nil, s => (.nil, s)
  | i, .cons x k r, s =>
    if x.k = 1 then
      let q := wv pk d (i + 1) r (st s x.n (d + binds pk i))
      ((g s x.n (d + binds pk i)).app q.1, q.2)
    else
      let p := wv x.k (d + binds pk i) 0 k s
      let q := wv pk d (i + 1) r p.2
      (.cons x p.1 q.1, q.2)
end

theorem wv_nil {σ : Type} (g : σ → Int → Nat → F) (st : σ → Int → Nat → σ) (pk : Int) (d i : Nat) (s : σ) : wv g st pk d i .nil s = (.nil, s) := rfl
theorem binds_0 (i : Nat) : binds 0 i = 0 := by simp [binds]
theorem wv_cons {σ : Type} (g : σ → Int → Nat → F) (st : σ → Int → Nat → σ) (pk : Int) (d i : Nat) (y : Cc) (ky r : F) (s : σ) :
    wv g st pk d i (.cons y ky r) s = (((wv g st 0 (d + binds pk i) 0 (.cons y ky .nil) s).1).app (wv g st pk d (i + 1) r (wv g st 0 (d + binds pk i) 0 (.cons y ky .nil) s).2).1, (wv g st pk d (i + 1) r (wv g st 0 (d + binds pk i) 0 (.cons y ky .nil) s).2).2) := by
  by_cases h : y.k = 1
  · simp [wv, h, binds_0, F.app_nil]
  · simp [wv, h, binds_0, F.app]
theorem wv_len {σ : Type} {g : σ → Int → Nat → F} {st : σ → Int → Nat → σ} (hg : ∀ s n d, (g s n d).len = 1) : ∀ (a : F) (pk : Int) (d i : Nat) (s : σ), (wv g st pk d i a s).1.len = a.len
  | .nil, _, _, _, _ => rfl
  | .cons x k r, pk, d, i, s => by
    by_cases h : x.k = 1
    · simp only [wv, h, if_true, F.app_len, hg, wv_len hg r, F.len]; omega
    · simp only [wv, h, if_false, F.len, wv_len hg r]
theorem pvs_one {a : F} (h : a.len = 1) : pvs a = [pvT a] := by
  obtain ⟨x, k, rfl⟩ := F.len_1 h
  rfl
theorem pvT_iface {a : F} (h : a.len = 1) : ∃ T u, pvT a = .iface T u := by
  obtain ⟨x, k, rfl⟩ := F.len_1 h
  exact pv_iface _ _ _

/-- The memory holds what the state says, and will, whatever is made. -/
def Inv (cb : Nat) (ob : World → Prop) (w : World) : Prop := ∀ w' : World, w.heap.size ≤ w'.heap.size → (∀ k, k < w.heap.size → w'.heap[k]? = w.heap[k]?) → ob w'
theorem Inv.get {cb : Nat} {ob : World → Prop} {w : World} (h : Inv cb ob w) : ob w := h w (Nat.le_refl _) (fun _ _ => rfl)

/-! What each assertion tells of each part. -/
theorem as_var_var (v : Value) (w : World) : (Instr.typeAssert (.iface 84 v) 80 84 true).run Try.prog w = .ok (.tuple #[v, .bool true]) w := by kernel_rfl
theorem as_lam_var (v : Value) (w : World) : (Instr.typeAssert (.iface 90 v) 80 84 true).run Try.prog w = .ok (.tuple #[.agg #[.int .i64 0], .bool false]) w := by kernel_rfl
theorem as_lam_lam (v : Value) (w : World) : (Instr.typeAssert (.iface 90 v) 80 90 true).run Try.prog w = .ok (.tuple #[v, .bool true]) w := by kernel_rfl
theorem as_app_var (v : Value) (w : World) : (Instr.typeAssert (.iface 92 v) 80 84 true).run Try.prog w = .ok (.tuple #[.agg #[.int .i64 0], .bool false]) w := by kernel_rfl
theorem as_app_lam (v : Value) (w : World) : (Instr.typeAssert (.iface 92 v) 80 90 true).run Try.prog w = .ok (.tuple #[.agg #[.nilIface], .bool false]) w := by kernel_rfl
theorem as_app_app (v : Value) (w : World) : (Instr.typeAssert (.iface 92 v) 80 92 true).run Try.prog w = .ok (.tuple #[v, .bool true]) w := by kernel_rfl
theorem as_add_var (v : Value) (w : World) : (Instr.typeAssert (.iface 94 v) 80 84 true).run Try.prog w = .ok (.tuple #[.agg #[.int .i64 0], .bool false]) w := by kernel_rfl
theorem as_add_lam (v : Value) (w : World) : (Instr.typeAssert (.iface 94 v) 80 90 true).run Try.prog w = .ok (.tuple #[.agg #[.nilIface], .bool false]) w := by kernel_rfl
theorem as_add_app (v : Value) (w : World) : (Instr.typeAssert (.iface 94 v) 80 92 true).run Try.prog w = .ok (.tuple #[.agg #[.nilIface, .nilIface], .bool false]) w := by kernel_rfl
theorem as_add_add (v : Value) (w : World) : (Instr.typeAssert (.iface 94 v) 80 94 true).run Try.prog w = .ok (.tuple #[v, .bool true]) w := by kernel_rfl
theorem as_if_var (v : Value) (w : World) : (Instr.typeAssert (.iface 96 v) 80 84 true).run Try.prog w = .ok (.tuple #[.agg #[.int .i64 0], .bool false]) w := by kernel_rfl
theorem as_if_lam (v : Value) (w : World) : (Instr.typeAssert (.iface 96 v) 80 90 true).run Try.prog w = .ok (.tuple #[.agg #[.nilIface], .bool false]) w := by kernel_rfl
theorem as_if_app (v : Value) (w : World) : (Instr.typeAssert (.iface 96 v) 80 92 true).run Try.prog w = .ok (.tuple #[.agg #[.nilIface, .nilIface], .bool false]) w := by kernel_rfl
theorem as_if_add (v : Value) (w : World) : (Instr.typeAssert (.iface 96 v) 80 94 true).run Try.prog w = .ok (.tuple #[.agg #[.nilIface, .nilIface], .bool false]) w := by kernel_rfl
theorem as_if_if (v : Value) (w : World) : (Instr.typeAssert (.iface 96 v) 80 96 true).run Try.prog w = .ok (.tuple #[v, .bool true]) w := by kernel_rfl
theorem as_let_var (v : Value) (w : World) : (Instr.typeAssert (.iface 98 v) 80 84 true).run Try.prog w = .ok (.tuple #[.agg #[.int .i64 0], .bool false]) w := by kernel_rfl
theorem as_let_lam (v : Value) (w : World) : (Instr.typeAssert (.iface 98 v) 80 90 true).run Try.prog w = .ok (.tuple #[.agg #[.nilIface], .bool false]) w := by kernel_rfl
theorem as_let_app (v : Value) (w : World) : (Instr.typeAssert (.iface 98 v) 80 92 true).run Try.prog w = .ok (.tuple #[.agg #[.nilIface, .nilIface], .bool false]) w := by kernel_rfl
theorem as_let_add (v : Value) (w : World) : (Instr.typeAssert (.iface 98 v) 80 94 true).run Try.prog w = .ok (.tuple #[.agg #[.nilIface, .nilIface], .bool false]) w := by kernel_rfl
theorem as_let_if (v : Value) (w : World) : (Instr.typeAssert (.iface 98 v) 80 96 true).run Try.prog w = .ok (.tuple #[.agg #[.nilIface, .nilIface, .nilIface], .bool false]) w := by kernel_rfl
theorem as_let_let (v : Value) (w : World) : (Instr.typeAssert (.iface 98 v) 80 98 true).run Try.prog w = .ok (.tuple #[v, .bool true]) w := by kernel_rfl
theorem as_num_var (v : Value) (w : World) : (Instr.typeAssert (.iface 101 v) 80 84 true).run Try.prog w = .ok (.tuple #[.agg #[.int .i64 0], .bool false]) w := by kernel_rfl
theorem as_num_lam (v : Value) (w : World) : (Instr.typeAssert (.iface 101 v) 80 90 true).run Try.prog w = .ok (.tuple #[.agg #[.nilIface], .bool false]) w := by kernel_rfl
theorem as_num_app (v : Value) (w : World) : (Instr.typeAssert (.iface 101 v) 80 92 true).run Try.prog w = .ok (.tuple #[.agg #[.nilIface, .nilIface], .bool false]) w := by kernel_rfl
theorem as_num_add (v : Value) (w : World) : (Instr.typeAssert (.iface 101 v) 80 94 true).run Try.prog w = .ok (.tuple #[.agg #[.nilIface, .nilIface], .bool false]) w := by kernel_rfl
theorem as_num_if (v : Value) (w : World) : (Instr.typeAssert (.iface 101 v) 80 96 true).run Try.prog w = .ok (.tuple #[.agg #[.nilIface, .nilIface, .nilIface], .bool false]) w := by kernel_rfl
theorem as_num_let (v : Value) (w : World) : (Instr.typeAssert (.iface 101 v) 80 98 true).run Try.prog w = .ok (.tuple #[.agg #[.nilIface, .nilIface], .bool false]) w := by kernel_rfl


theorem Inv.oth {cb : Nat} {ob : World → Prop} {w : World} (h : Inv cb ob w) (o : Obj) : Inv cb ob (w.alloc o) := fun w' h1 h2 => h w' (by simp at h1; omega) (fun k hk => (h2 k (by simp; omega)).trans (heap_alloc_old _ _ hk))
theorem Inv.drew {cb : Nat} {ob : World → Prop} {w : World} (h : Inv cb ob w) : Inv cb ob w.drew := h
theorem Inv.blk {cb b : Nat} {o : Obj} {w : World} (h : w.heap[b]? = some o) : Inv cb (fun w => w.heap[b]? = some o) w := fun w' _ h2 => (h2 b (Array.getElem?_eq_some_iff.1 h).1).trans h
theorem Inv.and {cb : Nat} {P Q : World → Prop} {w : World} (h1 : Inv cb P w) (h2 : Inv cb Q w) : Inv cb (fun w => P w ∧ Q w) w := fun w' a b => ⟨h1 w' a b, h2 w' a b⟩
theorem Oth.alloc1 (cb : Nat) (w : World) (o : Obj) : Oth cb w (w.alloc o) := Oth.ofBelow ((Below.refl _ _).alloc (Nat.le_refl _) _)
theorem Oth.drew1 (cb : Nat) (w : World) : Oth cb w w.drew := ⟨rfl, rfl, rfl, Nat.le_refl _, fun _ _ _ => rfl⟩
theorem Oth.cell {cb : Nat} {w w' : World} (h : Oth cb w w') {a : Addr} {v : Value} (hn : a.block ≠ cb) (hc : w.cell? a = some v) : w'.cell? a = some v :=
  (World.cell?_of_block (h.block a.block (World.block_lt_of_cell? w a hc) hn)).trans hc

theorem F.len_2 {a : F} (h : a.len = 2) : ∃ x k y l, a = .cons x k (.cons y l .nil) := by
  cases a with
  | nil => simp [F.len] at h
  | cons x k r => simp [F.len] at h; obtain ⟨y, l, rfl⟩ := F.len_1 h; exact ⟨x, k, y, l, rfl⟩
theorem F.len_3 {a : F} (h : a.len = 3) : ∃ x k y l z m, a = .cons x k (.cons y l (.cons z m .nil)) := by
  cases a with
  | nil => simp [F.len] at h
  | cons x k r => simp [F.len] at h; obtain ⟨y, l, z, m, rfl⟩ := F.len_2 h; exact ⟨x, k, y, l, z, m, rfl⟩

/-- What a change of variables does. -/
def ChgOK {σ : Type} (fid : FuncId) (cap : Array Value) (cb : Nat) (ob : σ → World → Prop) (g : σ → Int → Nat → F) (st : σ → Int → Nat → σ) : Prop :=
  ∀ (s : σ) (n : Int) (d : Nat) (w : World), 0 ≤ n → n ≤ 99 → d ≤ 1048576 → cb < w.heap.size → Inv cb (ob s) w →
    Calls Try.prog fid (#[.agg #[.int .i64 n], .int .i64 (d : Int)] ++ cap) w fun e w' => e = .returned (pvT (g s n d)) ∧ Inv cb (ob (st s n d)) w' ∧ Oth cb w w'

/-- One term with its variables changed. -/
def w1 {σ : Type} (g : σ → Int → Nat → F) (st : σ → Int → Nat → σ) (d : Nat) (x : Cc) (k : F) (s : σ) : F × σ := wv g st 0 d 0 (.cons x k .nil) s
theorem w1_var {σ : Type} (g : σ → Int → Nat → F) (st : σ → Int → Nat → σ) (d : Nat) (n : Int) (k : F) (s : σ) : w1 g st d ⟨1, n⟩ k s = (g s n d, st s n d) := by
  simp [w1, wv, binds_0, F.app_nil]
theorem w1_other {σ : Type} (g : σ → Int → Nat → F) (st : σ → Int → Nat → σ) (d : Nat) (x : Cc) (k : F) (s : σ) (h : x.k ≠ 1) : w1 g st d x k s = (.cons x (wv g st x.k d 0 k s).1 .nil, (wv g st x.k d 0 k s).2) := by
  simp [w1, wv, binds_0, h]
theorem wv_step {σ : Type} (g : σ → Int → Nat → F) (st : σ → Int → Nat → σ) (pk : Int) (d i : Nat) (y : Cc) (ky r : F) (s : σ) :
    wv g st pk d i (.cons y ky r) s = (((w1 g st (d + binds pk i) y ky s).1).app (wv g st pk d (i + 1) r (w1 g st (d + binds pk i) y ky s).2).1, (wv g st pk d (i + 1) r (w1 g st (d + binds pk i) y ky s).2).2) := wv_cons g st pk d i y ky r s

section
variable {σ : Type} (fid : FuncId) (cap : Array Value) (cb : Nat) (ob : σ → World → Prop) (g : σ → Int → Nat → F) (st : σ → Int → Nat → σ)

/-- A call of withVariables at one term. -/
def WVC (s : σ) (d : Int) (v : Value) (r : F × σ) : Prop := ∀ (w : World), cb < w.heap.size → Inv cb (ob s) w →
    Calls Try.prog 49 #[v, .int .i64 d, .func (.func fid) #[] cap] w fun e w' => e = .returned (pvT r.1) ∧ Inv cb (ob r.2) w' ∧ Oth cb w w'
def WVGoal (k : F) : Prop := ∀ (x : Cc) (s : σ) (d : Nat), goodC x = true → k.len = ar x.k → k.ok → d + k.flat.length ≤ 1048576 → WVC fid cap cb ob s (d : Int) (pv x.k x.n (pvs k)) (w1 g st d x k s)

set_option maxRecDepth 20000 in
set_option maxHeartbeats 4000000 in
theorem with_lam (s0 : σ) (d : Nat) (hd : d ≤ 1048576) (T0 : TypeId) (u0 : Value) (R0 : TypeId) (q0 : Value) (s1 : σ) (h0 : ∀ (w : World), cb < w.heap.size → Inv cb (ob s0) w → Calls Try.prog 49 #[.iface T0 u0, .int .i64 ((d : Int) + 1), .func (.func fid) #[] cap] w fun e w' => e = .returned (.iface R0 q0) ∧ Inv cb (ob s1) w' ∧ Oth cb w w') :
    ∀ (w : World), cb < w.heap.size → Inv cb (ob s0) w → Calls Try.prog 49 #[.iface 90 (.agg #[.iface T0 u0]), .int .i64 (d : Int), .func (.func fid) #[] cap] w fun e w' => e = .returned (.iface 90 (.agg #[.iface R0 q0])) ∧ Inv cb (ob s1) w' ∧ Oth cb w w' := by
  intro w hcb hinv
  have H0 := hide h0
  clear h0
  have a_var := as_lam_var
  have a_lam := as_lam_lam
  have HI := hide hinv
  clear hinv
  go_enter Try.func49, Try.ntmps49
  go_wp2_with fail
  refine Calls.mono (H0.out _ (by simp; omega) (HI.out.oth _)) ?_
  rintro e w2 ⟨rfl, hi2, ho2⟩
  go_wp2_with fail
  go_ret
  exact ⟨rfl, hi2, (Oth.alloc1 cb w _).trans ho2⟩

set_option maxRecDepth 20000 in
set_option maxHeartbeats 4000000 in
theorem with_app (s0 : σ) (d : Nat) (hd : d ≤ 1048576) (T0 : TypeId) (u0 : Value) (R0 : TypeId) (q0 : Value) (s1 : σ) (T1 : TypeId) (u1 : Value) (R1 : TypeId) (q1 : Value) (s2 : σ) (h0 : ∀ (w : World), cb < w.heap.size → Inv cb (ob s0) w → Calls Try.prog 49 #[.iface T0 u0, .int .i64 ((d : Int)), .func (.func fid) #[] cap] w fun e w' => e = .returned (.iface R0 q0) ∧ Inv cb (ob s1) w' ∧ Oth cb w w') (h1 : ∀ (w : World), cb < w.heap.size → Inv cb (ob s1) w → Calls Try.prog 49 #[.iface T1 u1, .int .i64 ((d : Int)), .func (.func fid) #[] cap] w fun e w' => e = .returned (.iface R1 q1) ∧ Inv cb (ob s2) w' ∧ Oth cb w w') :
    ∀ (w : World), cb < w.heap.size → Inv cb (ob s0) w → Calls Try.prog 49 #[.iface 92 (.agg #[.iface T0 u0, .iface T1 u1]), .int .i64 (d : Int), .func (.func fid) #[] cap] w fun e w' => e = .returned (.iface 92 (.agg #[.iface R0 q0, .iface R1 q1])) ∧ Inv cb (ob s2) w' ∧ Oth cb w w' := by
  intro w hcb hinv
  have H0 := hide h0
  have H1 := hide h1
  clear h0 h1
  have a_var := as_app_var
  have a_lam := as_app_lam
  have a_app := as_app_app
  have HI := hide hinv
  clear hinv
  go_enter Try.func49, Try.ntmps49
  have hw : IntKind.i64.wrap ((d : Int) + 1) = (d : Int) + 1 := IntWalk.i64_in _ ⟨by omega, by omega⟩
  go_wp2_with fail
  obtain ⟨w0, hw0⟩ : ∃ w0, w0 = w.alloc (.cells #[.iface T0 u0, .iface T1 u1] 92) := ⟨_, rfl⟩
  rw [← hw0]
  have hb0 : w0.heap[w.heap.size]? = some (.cells #[.iface T0 u0, .iface T1 u1] 92) := by rw [hw0]; exact heap_alloc_new _ _
  have hi0 : Inv cb (ob s0) w0 := by rw [hw0]; exact HI.out.oth _
  have ho0 : Oth cb w w0 := by rw [hw0]; exact Oth.alloc1 _ _ _
  have hxb : w.heap.size ≠ cb := by omega
  have c0 : w0.cell? ⟨w.heap.size, 0, none⟩ = some (.iface T0 u0) := (cell_of_blk hb0 0).trans rfl
  have c1 : w0.cell? ⟨w.heap.size, 1, none⟩ = some (.iface T1 u1) := (cell_of_blk hb0 1).trans rfl
  have hcb0 : cb < w0.heap.size := Nat.lt_of_lt_of_le hcb ho0.size
  have HI0 := hide hi0
  have HO0 := hide ho0
  clear hw0 hb0 hi0 ho0
  go_region_held3 (fun w' => w'.cell? ⟨w.heap.size, 0, none⟩ = some (.iface T0 u0) ∧ w'.cell? ⟨w.heap.size, 1, none⟩ = some (.iface T1 u1)) (go_keep)
    (first
      | (go_at_call_of 49 u0; refine Calls.mono (H0.out _ hcb0 HI0.out.drew) ?_; rintro e w1 ⟨rfl, hi, ho⟩; have hcb1 : cb < w1.heap.size := Nat.lt_of_lt_of_le hcb0 ho.size; have HI1 := hide hi; have HO1 := hide ho; clear hi ho; have c0_1 := HO1.out.cell hxb c0; have c1_1 := HO1.out.cell hxb c1)
      | (go_at_call_of 49 u1; refine Calls.mono (H1.out _ hcb1 HI1.out) ?_; rintro e w2 ⟨rfl, hi, ho⟩; have hcb2 : cb < w2.heap.size := Nat.lt_of_lt_of_le hcb1 ho.size; have HI2 := hide hi; have HO2 := hide ho; clear hi ho; have c0_2 := HO2.out.cell hxb c0_1; have c1_2 := HO2.out.cell hxb c1_1))
  go_wp2_with fail
  go_ret
  exact ⟨rfl, HI2.out, ((HO0.out.trans (Oth.drew1 cb w0)).trans HO1.out).trans HO2.out⟩

set_option maxRecDepth 20000 in
set_option maxHeartbeats 4000000 in
theorem with_add (s0 : σ) (d : Nat) (hd : d ≤ 1048576) (T0 : TypeId) (u0 : Value) (R0 : TypeId) (q0 : Value) (s1 : σ) (T1 : TypeId) (u1 : Value) (R1 : TypeId) (q1 : Value) (s2 : σ) (h0 : ∀ (w : World), cb < w.heap.size → Inv cb (ob s0) w → Calls Try.prog 49 #[.iface T0 u0, .int .i64 ((d : Int)), .func (.func fid) #[] cap] w fun e w' => e = .returned (.iface R0 q0) ∧ Inv cb (ob s1) w' ∧ Oth cb w w') (h1 : ∀ (w : World), cb < w.heap.size → Inv cb (ob s1) w → Calls Try.prog 49 #[.iface T1 u1, .int .i64 ((d : Int)), .func (.func fid) #[] cap] w fun e w' => e = .returned (.iface R1 q1) ∧ Inv cb (ob s2) w' ∧ Oth cb w w') :
    ∀ (w : World), cb < w.heap.size → Inv cb (ob s0) w → Calls Try.prog 49 #[.iface 94 (.agg #[.iface T0 u0, .iface T1 u1]), .int .i64 (d : Int), .func (.func fid) #[] cap] w fun e w' => e = .returned (.iface 94 (.agg #[.iface R0 q0, .iface R1 q1])) ∧ Inv cb (ob s2) w' ∧ Oth cb w w' := by
  intro w hcb hinv
  have H0 := hide h0
  have H1 := hide h1
  clear h0 h1
  have a_var := as_add_var
  have a_lam := as_add_lam
  have a_app := as_add_app
  have a_add := as_add_add
  have HI := hide hinv
  clear hinv
  go_enter Try.func49, Try.ntmps49
  have hw : IntKind.i64.wrap ((d : Int) + 1) = (d : Int) + 1 := IntWalk.i64_in _ ⟨by omega, by omega⟩
  go_wp2_with fail
  obtain ⟨w0, hw0⟩ : ∃ w0, w0 = w.alloc (.cells #[.iface T0 u0, .iface T1 u1] 94) := ⟨_, rfl⟩
  rw [← hw0]
  have hb0 : w0.heap[w.heap.size]? = some (.cells #[.iface T0 u0, .iface T1 u1] 94) := by rw [hw0]; exact heap_alloc_new _ _
  have hi0 : Inv cb (ob s0) w0 := by rw [hw0]; exact HI.out.oth _
  have ho0 : Oth cb w w0 := by rw [hw0]; exact Oth.alloc1 _ _ _
  have hxb : w.heap.size ≠ cb := by omega
  have c0 : w0.cell? ⟨w.heap.size, 0, none⟩ = some (.iface T0 u0) := (cell_of_blk hb0 0).trans rfl
  have c1 : w0.cell? ⟨w.heap.size, 1, none⟩ = some (.iface T1 u1) := (cell_of_blk hb0 1).trans rfl
  have hcb0 : cb < w0.heap.size := Nat.lt_of_lt_of_le hcb ho0.size
  have HI0 := hide hi0
  have HO0 := hide ho0
  clear hw0 hb0 hi0 ho0
  go_region_held3 (fun w' => w'.cell? ⟨w.heap.size, 0, none⟩ = some (.iface T0 u0) ∧ w'.cell? ⟨w.heap.size, 1, none⟩ = some (.iface T1 u1)) (go_keep)
    (first
      | (go_at_call_of 49 u0; refine Calls.mono (H0.out _ hcb0 HI0.out.drew) ?_; rintro e w1 ⟨rfl, hi, ho⟩; have hcb1 : cb < w1.heap.size := Nat.lt_of_lt_of_le hcb0 ho.size; have HI1 := hide hi; have HO1 := hide ho; clear hi ho; have c0_1 := HO1.out.cell hxb c0; have c1_1 := HO1.out.cell hxb c1)
      | (go_at_call_of 49 u1; refine Calls.mono (H1.out _ hcb1 HI1.out) ?_; rintro e w2 ⟨rfl, hi, ho⟩; have hcb2 : cb < w2.heap.size := Nat.lt_of_lt_of_le hcb1 ho.size; have HI2 := hide hi; have HO2 := hide ho; clear hi ho; have c0_2 := HO2.out.cell hxb c0_1; have c1_2 := HO2.out.cell hxb c1_1))
  go_wp2_with fail
  go_ret
  exact ⟨rfl, HI2.out, ((HO0.out.trans (Oth.drew1 cb w0)).trans HO1.out).trans HO2.out⟩

set_option maxRecDepth 20000 in
set_option maxHeartbeats 4000000 in
theorem with_if (s0 : σ) (d : Nat) (hd : d ≤ 1048576) (T0 : TypeId) (u0 : Value) (R0 : TypeId) (q0 : Value) (s1 : σ) (T1 : TypeId) (u1 : Value) (R1 : TypeId) (q1 : Value) (s2 : σ) (T2 : TypeId) (u2 : Value) (R2 : TypeId) (q2 : Value) (s3 : σ) (h0 : ∀ (w : World), cb < w.heap.size → Inv cb (ob s0) w → Calls Try.prog 49 #[.iface T0 u0, .int .i64 ((d : Int)), .func (.func fid) #[] cap] w fun e w' => e = .returned (.iface R0 q0) ∧ Inv cb (ob s1) w' ∧ Oth cb w w') (h1 : ∀ (w : World), cb < w.heap.size → Inv cb (ob s1) w → Calls Try.prog 49 #[.iface T1 u1, .int .i64 ((d : Int)), .func (.func fid) #[] cap] w fun e w' => e = .returned (.iface R1 q1) ∧ Inv cb (ob s2) w' ∧ Oth cb w w') (h2 : ∀ (w : World), cb < w.heap.size → Inv cb (ob s2) w → Calls Try.prog 49 #[.iface T2 u2, .int .i64 ((d : Int)), .func (.func fid) #[] cap] w fun e w' => e = .returned (.iface R2 q2) ∧ Inv cb (ob s3) w' ∧ Oth cb w w') :
    ∀ (w : World), cb < w.heap.size → Inv cb (ob s0) w → Calls Try.prog 49 #[.iface 96 (.agg #[.iface T0 u0, .iface T1 u1, .iface T2 u2]), .int .i64 (d : Int), .func (.func fid) #[] cap] w fun e w' => e = .returned (.iface 96 (.agg #[.iface R0 q0, .iface R1 q1, .iface R2 q2])) ∧ Inv cb (ob s3) w' ∧ Oth cb w w' := by
  intro w hcb hinv
  have H0 := hide h0
  have H1 := hide h1
  have H2 := hide h2
  clear h0 h1 h2
  have a_var := as_if_var
  have a_lam := as_if_lam
  have a_app := as_if_app
  have a_add := as_if_add
  have a_if := as_if_if
  have HI := hide hinv
  clear hinv
  go_enter Try.func49, Try.ntmps49
  have hw : IntKind.i64.wrap ((d : Int) + 1) = (d : Int) + 1 := IntWalk.i64_in _ ⟨by omega, by omega⟩
  go_wp2_with fail
  obtain ⟨w0, hw0⟩ : ∃ w0, w0 = w.alloc (.cells #[.iface T0 u0, .iface T1 u1, .iface T2 u2] 96) := ⟨_, rfl⟩
  rw [← hw0]
  have hb0 : w0.heap[w.heap.size]? = some (.cells #[.iface T0 u0, .iface T1 u1, .iface T2 u2] 96) := by rw [hw0]; exact heap_alloc_new _ _
  have hi0 : Inv cb (ob s0) w0 := by rw [hw0]; exact HI.out.oth _
  have ho0 : Oth cb w w0 := by rw [hw0]; exact Oth.alloc1 _ _ _
  have hxb : w.heap.size ≠ cb := by omega
  have c0 : w0.cell? ⟨w.heap.size, 0, none⟩ = some (.iface T0 u0) := (cell_of_blk hb0 0).trans rfl
  have c1 : w0.cell? ⟨w.heap.size, 1, none⟩ = some (.iface T1 u1) := (cell_of_blk hb0 1).trans rfl
  have c2 : w0.cell? ⟨w.heap.size, 2, none⟩ = some (.iface T2 u2) := (cell_of_blk hb0 2).trans rfl
  have hcb0 : cb < w0.heap.size := Nat.lt_of_lt_of_le hcb ho0.size
  have HI0 := hide hi0
  have HO0 := hide ho0
  clear hw0 hb0 hi0 ho0
  go_region_held3 (fun w' => w'.cell? ⟨w.heap.size, 0, none⟩ = some (.iface T0 u0) ∧ w'.cell? ⟨w.heap.size, 1, none⟩ = some (.iface T1 u1) ∧ w'.cell? ⟨w.heap.size, 2, none⟩ = some (.iface T2 u2)) (go_keep)
    (first
      | (go_at_call_of 49 u0; refine Calls.mono (H0.out _ hcb0 HI0.out.drew) ?_; rintro e w1 ⟨rfl, hi, ho⟩; have hcb1 : cb < w1.heap.size := Nat.lt_of_lt_of_le hcb0 ho.size; have HI1 := hide hi; have HO1 := hide ho; clear hi ho; have c0_1 := HO1.out.cell hxb c0; have c1_1 := HO1.out.cell hxb c1; have c2_1 := HO1.out.cell hxb c2)
      | (go_at_call_of 49 u1; refine Calls.mono (H1.out _ hcb1 HI1.out) ?_; rintro e w2 ⟨rfl, hi, ho⟩; have hcb2 : cb < w2.heap.size := Nat.lt_of_lt_of_le hcb1 ho.size; have HI2 := hide hi; have HO2 := hide ho; clear hi ho; have c0_2 := HO2.out.cell hxb c0_1; have c1_2 := HO2.out.cell hxb c1_1; have c2_2 := HO2.out.cell hxb c2_1)
      | (go_at_call_of 49 u2; refine Calls.mono (H2.out _ hcb2 HI2.out) ?_; rintro e w3 ⟨rfl, hi, ho⟩; have hcb3 : cb < w3.heap.size := Nat.lt_of_lt_of_le hcb2 ho.size; have HI3 := hide hi; have HO3 := hide ho; clear hi ho; have c0_3 := HO3.out.cell hxb c0_2; have c1_3 := HO3.out.cell hxb c1_2; have c2_3 := HO3.out.cell hxb c2_2))
  go_wp2_with fail
  go_ret
  exact ⟨rfl, HI3.out, (((HO0.out.trans (Oth.drew1 cb w0)).trans HO1.out).trans HO2.out).trans HO3.out⟩

set_option maxRecDepth 20000 in
set_option maxHeartbeats 4000000 in
theorem with_let (s0 : σ) (d : Nat) (hd : d ≤ 1048576) (T0 : TypeId) (u0 : Value) (R0 : TypeId) (q0 : Value) (s1 : σ) (T1 : TypeId) (u1 : Value) (R1 : TypeId) (q1 : Value) (s2 : σ) (h0 : ∀ (w : World), cb < w.heap.size → Inv cb (ob s0) w → Calls Try.prog 49 #[.iface T0 u0, .int .i64 ((d : Int)), .func (.func fid) #[] cap] w fun e w' => e = .returned (.iface R0 q0) ∧ Inv cb (ob s1) w' ∧ Oth cb w w') (h1 : ∀ (w : World), cb < w.heap.size → Inv cb (ob s1) w → Calls Try.prog 49 #[.iface T1 u1, .int .i64 ((d : Int) + 1), .func (.func fid) #[] cap] w fun e w' => e = .returned (.iface R1 q1) ∧ Inv cb (ob s2) w' ∧ Oth cb w w') :
    ∀ (w : World), cb < w.heap.size → Inv cb (ob s0) w → Calls Try.prog 49 #[.iface 98 (.agg #[.iface T0 u0, .iface T1 u1]), .int .i64 (d : Int), .func (.func fid) #[] cap] w fun e w' => e = .returned (.iface 98 (.agg #[.iface R0 q0, .iface R1 q1])) ∧ Inv cb (ob s2) w' ∧ Oth cb w w' := by
  intro w hcb hinv
  have H0 := hide h0
  have H1 := hide h1
  clear h0 h1
  have a_var := as_let_var
  have a_lam := as_let_lam
  have a_app := as_let_app
  have a_add := as_let_add
  have a_if := as_let_if
  have a_let := as_let_let
  have HI := hide hinv
  clear hinv
  go_enter Try.func49, Try.ntmps49
  have hw : IntKind.i64.wrap ((d : Int) + 1) = (d : Int) + 1 := IntWalk.i64_in _ ⟨by omega, by omega⟩
  go_wp2_with fail
  obtain ⟨w0, hw0⟩ : ∃ w0, w0 = w.alloc (.cells #[.iface T0 u0, .iface T1 u1] 98) := ⟨_, rfl⟩
  rw [← hw0]
  have hb0 : w0.heap[w.heap.size]? = some (.cells #[.iface T0 u0, .iface T1 u1] 98) := by rw [hw0]; exact heap_alloc_new _ _
  have hi0 : Inv cb (ob s0) w0 := by rw [hw0]; exact HI.out.oth _
  have ho0 : Oth cb w w0 := by rw [hw0]; exact Oth.alloc1 _ _ _
  have hxb : w.heap.size ≠ cb := by omega
  have c0 : w0.cell? ⟨w.heap.size, 0, none⟩ = some (.iface T0 u0) := (cell_of_blk hb0 0).trans rfl
  have c1 : w0.cell? ⟨w.heap.size, 1, none⟩ = some (.iface T1 u1) := (cell_of_blk hb0 1).trans rfl
  have hcb0 : cb < w0.heap.size := Nat.lt_of_lt_of_le hcb ho0.size
  have HI0 := hide hi0
  have HO0 := hide ho0
  clear hw0 hb0 hi0 ho0
  go_region_held3 (fun w' => w'.cell? ⟨w.heap.size, 0, none⟩ = some (.iface T0 u0) ∧ w'.cell? ⟨w.heap.size, 1, none⟩ = some (.iface T1 u1)) (go_keep)
    (first
      | (go_at_call_of 49 u0; refine Calls.mono (H0.out _ hcb0 HI0.out.drew) ?_; rintro e w1 ⟨rfl, hi, ho⟩; have hcb1 : cb < w1.heap.size := Nat.lt_of_lt_of_le hcb0 ho.size; have HI1 := hide hi; have HO1 := hide ho; clear hi ho; have c0_1 := HO1.out.cell hxb c0; have c1_1 := HO1.out.cell hxb c1)
      | (go_at_call_of 49 u1; refine Calls.mono (H1.out _ hcb1 HI1.out) ?_; rintro e w2 ⟨rfl, hi, ho⟩; have hcb2 : cb < w2.heap.size := Nat.lt_of_lt_of_le hcb1 ho.size; have HI2 := hide hi; have HO2 := hide ho; clear hi ho; have c0_2 := HO2.out.cell hxb c0_1; have c1_2 := HO2.out.cell hxb c1_1))
  go_wp2_with fail
  go_ret
  exact ⟨rfl, HI2.out, ((HO0.out.trans (Oth.drew1 cb w0)).trans HO1.out).trans HO2.out⟩

theorem with_num (s0 : σ) (d : Nat) (n : Int) : ∀ (w : World), cb < w.heap.size → Inv cb (ob s0) w → Calls Try.prog 49 #[.iface 101 (.agg #[.int .i64 n]), .int .i64 (d : Int), .func (.func fid) #[] cap] w fun e w' => e = .returned (.iface 101 (.agg #[.int .i64 n])) ∧ Inv cb (ob s0) w' ∧ Oth cb w w' := by
  intro w hcb hinv
  have HI := hide hinv
  clear hinv
  have a_var := as_num_var
  have a_lam := as_num_lam
  have a_app := as_num_app
  have a_add := as_num_add
  have a_if := as_num_if
  have a_let := as_num_let
  go_enter Try.func49, Try.ntmps49
  go_wp2_with fail
  go_ret
  exact ⟨rfl, HI.out, Oth.refl _ _⟩

set_option maxRecDepth 20000 in
set_option maxHeartbeats 2000000 in
theorem with_var (hfn : ∀ args w, (callFunc fid args).run Try.prog w = .ok (.enter fid args) w) (hch : ChgOK fid cap cb ob g st) (hlen : ∀ s n d, (g s n d).len = 1) (s0 : σ) (d : Nat) (hd : d ≤ 1048576) (n : Int) (h0 : 0 ≤ n) (h1 : n ≤ 99) :
    ∀ (w : World), cb < w.heap.size → Inv cb (ob s0) w → Calls Try.prog 49 #[.iface 84 (.agg #[.int .i64 n]), .int .i64 (d : Int), .func (.func fid) #[] cap] w fun e w' => e = .returned (pvT (g s0 n d)) ∧ Inv cb (ob (st s0 n d)) w' ∧ Oth cb w w' := by
  intro w hcb hinv
  have HI := hide hinv
  have HC := hide (fun w' => hch s0 n d w' h0 h1 hd)
  obtain ⟨T, u, hV⟩ := pvT_iface (hlen s0 n d)
  rw [hV] at HC ⊢
  clear hinv hV hch
  have a_var := as_var_var
  go_enter Try.func49, Try.ntmps49
  go_wp2_with fail
  refine Calls.mono (HC.out _ (by simp; omega) (HI.out.oth _)) ?_
  rintro e w2 ⟨rfl, hi2, ho2⟩
  go_wp2_with fail
  go_ret
  exact ⟨rfl, hi2, (Oth.alloc1 cb w _).trans ho2⟩

end
end Go.Proofs.Ytjalakdpmglamaa.W

/-
  The walk over a term's variables, whole: a contract of withVariables for any change of variables. Conditions: as the theorem states.
-/
namespace Go.Proofs.Ytjalakdpmglamaa.W
open Go.ChangeShapes Go.WideShapes Go.ChangeAt Go.RowKit
set_option linter.unusedVariables false

section
variable {σ : Type} (fid : FuncId) (cap : Array Value) (cb : Nat) (ob : σ → World → Prop) (g : σ → Int → Nat → F) (st : σ → Int → Nat → σ)
theorem ok_cons {x : Cc} {k r : F} (h : (F.cons x k r).ok) : goodC x = true ∧ k.len = ar x.k ∧ k.ok ∧ r.ok := h

theorem withVariables_any (hfn : ∀ args w, (callFunc fid args).run Try.prog w = .ok (.enter fid args) w) (hch : ChgOK fid cap cb ob g st) (hlen : ∀ s n d, (g s n d).len = 1) : ∀ k, WVGoal fid cap cb ob g st k := by
  apply F.rec_kids
  intro k ih x s d hg hk hko hd w hcb hinv
  have hl1 : ∀ (y : Cc) (ky : F) (s : σ) (d : Nat), (w1 g st d y ky s).1.len = 1 := fun y ky s d => wv_len hlen _ _ _ _ _
  have one : ∀ (y : Cc) (ky : F) (s : σ) (d : Nat), ∃ R q, pvT (w1 g st d y ky s).1 = .iface R q := fun y ky s d => pvT_iface (hl1 y ky s d)
  obtain ⟨xk, xn⟩ := x
  have hin := good_ar hg
  simp only [inB, Bool.and_eq_true, decide_eq_true_eq] at hin
  have hx : xk = 1 ∨ xk = 2 ∨ xk = 3 ∨ xk = 4 ∨ xk = 5 ∨ xk = 6 ∨ xk = 7 := by omega
  rcases hx with h | h | h | h | h | h | h
  · subst h
    rw [w1_var]
    have hn : 0 ≤ xn ∧ xn ≤ 99 := by simpa [goodC, inB] using hg
    exact with_var fid cap cb ob g st hfn hch hlen s d (by omega) xn hn.1 hn.2 w hcb hinv
  · subst h
    have hk0 : k = .nil := F.len_0 (by rw [hk]; rfl)
    subst hk0
    rw [w1_other _ _ _ _ _ _ (by simp)]
    exact with_num fid cap cb ob s d xn w hcb hinv
  · subst h
    obtain ⟨y0, k0, rfl⟩ := F.len_1 (show k.len = 1 by rw [hk]; rfl)
    obtain ⟨g0, l0, o0, r0⟩ := ok_cons hko
    have i0 := ih.1
    have hfl : d + ((1 + k0.flat.length)) ≤ 1048576 := by simp [F.flat] at hd; omega
    obtain ⟨R0, q0, e0⟩ := one y0 k0 s (d + 1)
    have c0 := i0 y0 s (d + 1) g0 l0 o0 (by omega)
    have f0 := hl1 y0 k0 s (d + 1)
    obtain ⟨T0, u0, v0⟩ := pv_iface y0.k y0.n (pvs k0)
    unfold WVC at c0
    rw [e0, v0] at c0
    rw [show ((d + 1 : Nat) : Int) = (d : Int) + 1 from rfl] at c0
    rw [w1_other _ _ _ _ _ _ (by simp)]
    have hp : pv 3 xn (pvs (F.cons y0 k0 (.nil))) = .iface 90 (.agg #[.iface T0 u0]) := by
      show pv 3 xn [pv y0.k y0.n (pvs k0)] = _
      rw [v0]
      rfl
    have hw : wv g st 3 d 0 (F.cons y0 k0 (.nil)) s = ((w1 g st (d + 1) y0 k0 s).1.app (.nil), (w1 g st (d + 1) y0 k0 s).2) := by simp [wv_step, wv_nil, binds]
    have hr : pvT (.cons ⟨3, xn⟩ ((w1 g st (d + 1) y0 k0 s).1.app (.nil)) .nil) = .iface 90 (.agg #[.iface R0 q0]) := by
      show pv 3 xn (pvs ((w1 g st (d + 1) y0 k0 s).1.app (.nil))) = _
      simp only [pvs_app, pvs_one f0, pvs]
      simp [pv, e0]
    rw [hw]
    simp only
    rw [hr, hp]
    exact with_lam fid cap cb ob s d (by omega) T0 u0 R0 q0 _ c0 w hcb hinv
  · subst h
    obtain ⟨y0, k0, y1, k1, rfl⟩ := F.len_2 (show k.len = 2 by rw [hk]; rfl)
    obtain ⟨g0, l0, o0, r0⟩ := ok_cons hko
    obtain ⟨g1, l1, o1, r1⟩ := ok_cons r0
    have i0 := ih.1
    have i1 := ih.2.1
    have hfl : d + ((1 + k0.flat.length) + (1 + k1.flat.length)) ≤ 1048576 := by simp [F.flat] at hd; omega
    obtain ⟨R0, q0, e0⟩ := one y0 k0 s d
    have c0 := i0 y0 s d g0 l0 o0 (by omega)
    have f0 := hl1 y0 k0 s d
    obtain ⟨R1, q1, e1⟩ := one y1 k1 (w1 g st d y0 k0 s).2 d
    have c1 := i1 y1 (w1 g st d y0 k0 s).2 d g1 l1 o1 (by omega)
    have f1 := hl1 y1 k1 (w1 g st d y0 k0 s).2 d
    obtain ⟨T0, u0, v0⟩ := pv_iface y0.k y0.n (pvs k0)
    unfold WVC at c0
    rw [e0, v0] at c0
    obtain ⟨T1, u1, v1⟩ := pv_iface y1.k y1.n (pvs k1)
    unfold WVC at c1
    rw [e1, v1] at c1
    rw [w1_other _ _ _ _ _ _ (by simp)]
    have hp : pv 4 xn (pvs (F.cons y0 k0 (F.cons y1 k1 (.nil)))) = .iface 92 (.agg #[.iface T0 u0, .iface T1 u1]) := by
      show pv 4 xn [pv y0.k y0.n (pvs k0), pv y1.k y1.n (pvs k1)] = _
      rw [v0, v1]
      rfl
    have hw : wv g st 4 d 0 (F.cons y0 k0 (F.cons y1 k1 (.nil))) s = ((w1 g st d y0 k0 s).1.app ((w1 g st d y1 k1 (w1 g st d y0 k0 s).2).1.app (.nil)), (w1 g st d y1 k1 (w1 g st d y0 k0 s).2).2) := by simp [wv_step, wv_nil, binds]
    have hr : pvT (.cons ⟨4, xn⟩ ((w1 g st d y0 k0 s).1.app ((w1 g st d y1 k1 (w1 g st d y0 k0 s).2).1.app (.nil))) .nil) = .iface 92 (.agg #[.iface R0 q0, .iface R1 q1]) := by
      show pv 4 xn (pvs ((w1 g st d y0 k0 s).1.app ((w1 g st d y1 k1 (w1 g st d y0 k0 s).2).1.app (.nil)))) = _
      simp only [pvs_app, pvs_one f0, pvs_one f1, pvs]
      simp [pv, e0, e1]
    rw [hw]
    simp only
    rw [hr, hp]
    exact with_app fid cap cb ob s d (by omega) T0 u0 R0 q0 _ T1 u1 R1 q1 _ c0 c1 w hcb hinv
  · subst h
    obtain ⟨y0, k0, y1, k1, rfl⟩ := F.len_2 (show k.len = 2 by rw [hk]; rfl)
    obtain ⟨g0, l0, o0, r0⟩ := ok_cons hko
    obtain ⟨g1, l1, o1, r1⟩ := ok_cons r0
    have i0 := ih.1
    have i1 := ih.2.1
    have hfl : d + ((1 + k0.flat.length) + (1 + k1.flat.length)) ≤ 1048576 := by simp [F.flat] at hd; omega
    obtain ⟨R0, q0, e0⟩ := one y0 k0 s d
    have c0 := i0 y0 s d g0 l0 o0 (by omega)
    have f0 := hl1 y0 k0 s d
    obtain ⟨R1, q1, e1⟩ := one y1 k1 (w1 g st d y0 k0 s).2 d
    have c1 := i1 y1 (w1 g st d y0 k0 s).2 d g1 l1 o1 (by omega)
    have f1 := hl1 y1 k1 (w1 g st d y0 k0 s).2 d
    obtain ⟨T0, u0, v0⟩ := pv_iface y0.k y0.n (pvs k0)
    unfold WVC at c0
    rw [e0, v0] at c0
    obtain ⟨T1, u1, v1⟩ := pv_iface y1.k y1.n (pvs k1)
    unfold WVC at c1
    rw [e1, v1] at c1
    rw [w1_other _ _ _ _ _ _ (by simp)]
    have hp : pv 5 xn (pvs (F.cons y0 k0 (F.cons y1 k1 (.nil)))) = .iface 94 (.agg #[.iface T0 u0, .iface T1 u1]) := by
      show pv 5 xn [pv y0.k y0.n (pvs k0), pv y1.k y1.n (pvs k1)] = _
      rw [v0, v1]
      rfl
    have hw : wv g st 5 d 0 (F.cons y0 k0 (F.cons y1 k1 (.nil))) s = ((w1 g st d y0 k0 s).1.app ((w1 g st d y1 k1 (w1 g st d y0 k0 s).2).1.app (.nil)), (w1 g st d y1 k1 (w1 g st d y0 k0 s).2).2) := by simp [wv_step, wv_nil, binds]
    have hr : pvT (.cons ⟨5, xn⟩ ((w1 g st d y0 k0 s).1.app ((w1 g st d y1 k1 (w1 g st d y0 k0 s).2).1.app (.nil))) .nil) = .iface 94 (.agg #[.iface R0 q0, .iface R1 q1]) := by
      show pv 5 xn (pvs ((w1 g st d y0 k0 s).1.app ((w1 g st d y1 k1 (w1 g st d y0 k0 s).2).1.app (.nil)))) = _
      simp only [pvs_app, pvs_one f0, pvs_one f1, pvs]
      simp [pv, e0, e1]
    rw [hw]
    simp only
    rw [hr, hp]
    exact with_add fid cap cb ob s d (by omega) T0 u0 R0 q0 _ T1 u1 R1 q1 _ c0 c1 w hcb hinv
  · subst h
    obtain ⟨y0, k0, y1, k1, y2, k2, rfl⟩ := F.len_3 (show k.len = 3 by rw [hk]; rfl)
    obtain ⟨g0, l0, o0, r0⟩ := ok_cons hko
    obtain ⟨g1, l1, o1, r1⟩ := ok_cons r0
    obtain ⟨g2, l2, o2, r2⟩ := ok_cons r1
    have i0 := ih.1
    have i1 := ih.2.1
    have i2 := ih.2.2.1
    have hfl : d + ((1 + k0.flat.length) + (1 + k1.flat.length) + (1 + k2.flat.length)) ≤ 1048576 := by simp [F.flat] at hd; omega
    obtain ⟨R0, q0, e0⟩ := one y0 k0 s d
    have c0 := i0 y0 s d g0 l0 o0 (by omega)
    have f0 := hl1 y0 k0 s d
    obtain ⟨R1, q1, e1⟩ := one y1 k1 (w1 g st d y0 k0 s).2 d
    have c1 := i1 y1 (w1 g st d y0 k0 s).2 d g1 l1 o1 (by omega)
    have f1 := hl1 y1 k1 (w1 g st d y0 k0 s).2 d
    obtain ⟨R2, q2, e2⟩ := one y2 k2 (w1 g st d y1 k1 (w1 g st d y0 k0 s).2).2 d
    have c2 := i2 y2 (w1 g st d y1 k1 (w1 g st d y0 k0 s).2).2 d g2 l2 o2 (by omega)
    have f2 := hl1 y2 k2 (w1 g st d y1 k1 (w1 g st d y0 k0 s).2).2 d
    obtain ⟨T0, u0, v0⟩ := pv_iface y0.k y0.n (pvs k0)
    unfold WVC at c0
    rw [e0, v0] at c0
    obtain ⟨T1, u1, v1⟩ := pv_iface y1.k y1.n (pvs k1)
    unfold WVC at c1
    rw [e1, v1] at c1
    obtain ⟨T2, u2, v2⟩ := pv_iface y2.k y2.n (pvs k2)
    unfold WVC at c2
    rw [e2, v2] at c2
    rw [w1_other _ _ _ _ _ _ (by simp)]
    have hp : pv 6 xn (pvs (F.cons y0 k0 (F.cons y1 k1 (F.cons y2 k2 (.nil))))) = .iface 96 (.agg #[.iface T0 u0, .iface T1 u1, .iface T2 u2]) := by
      show pv 6 xn [pv y0.k y0.n (pvs k0), pv y1.k y1.n (pvs k1), pv y2.k y2.n (pvs k2)] = _
      rw [v0, v1, v2]
      rfl
    have hw : wv g st 6 d 0 (F.cons y0 k0 (F.cons y1 k1 (F.cons y2 k2 (.nil)))) s = ((w1 g st d y0 k0 s).1.app ((w1 g st d y1 k1 (w1 g st d y0 k0 s).2).1.app ((w1 g st d y2 k2 (w1 g st d y1 k1 (w1 g st d y0 k0 s).2).2).1.app (.nil))), (w1 g st d y2 k2 (w1 g st d y1 k1 (w1 g st d y0 k0 s).2).2).2) := by simp [wv_step, wv_nil, binds]
    have hr : pvT (.cons ⟨6, xn⟩ ((w1 g st d y0 k0 s).1.app ((w1 g st d y1 k1 (w1 g st d y0 k0 s).2).1.app ((w1 g st d y2 k2 (w1 g st d y1 k1 (w1 g st d y0 k0 s).2).2).1.app (.nil)))) .nil) = .iface 96 (.agg #[.iface R0 q0, .iface R1 q1, .iface R2 q2]) := by
      show pv 6 xn (pvs ((w1 g st d y0 k0 s).1.app ((w1 g st d y1 k1 (w1 g st d y0 k0 s).2).1.app ((w1 g st d y2 k2 (w1 g st d y1 k1 (w1 g st d y0 k0 s).2).2).1.app (.nil))))) = _
      simp only [pvs_app, pvs_one f0, pvs_one f1, pvs_one f2, pvs]
      simp [pv, e0, e1, e2]
    rw [hw]
    simp only
    rw [hr, hp]
    exact with_if fid cap cb ob s d (by omega) T0 u0 R0 q0 _ T1 u1 R1 q1 _ T2 u2 R2 q2 _ c0 c1 c2 w hcb hinv
  · subst h
    obtain ⟨y0, k0, y1, k1, rfl⟩ := F.len_2 (show k.len = 2 by rw [hk]; rfl)
    obtain ⟨g0, l0, o0, r0⟩ := ok_cons hko
    obtain ⟨g1, l1, o1, r1⟩ := ok_cons r0
    have i0 := ih.1
    have i1 := ih.2.1
    have hfl : d + ((1 + k0.flat.length) + (1 + k1.flat.length)) ≤ 1048576 := by simp [F.flat] at hd; omega
    obtain ⟨R0, q0, e0⟩ := one y0 k0 s d
    have c0 := i0 y0 s d g0 l0 o0 (by omega)
    have f0 := hl1 y0 k0 s d
    obtain ⟨R1, q1, e1⟩ := one y1 k1 (w1 g st d y0 k0 s).2 (d + 1)
    have c1 := i1 y1 (w1 g st d y0 k0 s).2 (d + 1) g1 l1 o1 (by omega)
    have f1 := hl1 y1 k1 (w1 g st d y0 k0 s).2 (d + 1)
    obtain ⟨T0, u0, v0⟩ := pv_iface y0.k y0.n (pvs k0)
    unfold WVC at c0
    rw [e0, v0] at c0
    obtain ⟨T1, u1, v1⟩ := pv_iface y1.k y1.n (pvs k1)
    unfold WVC at c1
    rw [e1, v1] at c1
    rw [show ((d + 1 : Nat) : Int) = (d : Int) + 1 from rfl] at c1
    rw [w1_other _ _ _ _ _ _ (by simp)]
    have hp : pv 7 xn (pvs (F.cons y0 k0 (F.cons y1 k1 (.nil)))) = .iface 98 (.agg #[.iface T0 u0, .iface T1 u1]) := by
      show pv 7 xn [pv y0.k y0.n (pvs k0), pv y1.k y1.n (pvs k1)] = _
      rw [v0, v1]
      rfl
    have hw : wv g st 7 d 0 (F.cons y0 k0 (F.cons y1 k1 (.nil))) s = ((w1 g st d y0 k0 s).1.app ((w1 g st (d + 1) y1 k1 (w1 g st d y0 k0 s).2).1.app (.nil)), (w1 g st (d + 1) y1 k1 (w1 g st d y0 k0 s).2).2) := by simp [wv_step, wv_nil, binds]
    have hr : pvT (.cons ⟨7, xn⟩ ((w1 g st d y0 k0 s).1.app ((w1 g st (d + 1) y1 k1 (w1 g st d y0 k0 s).2).1.app (.nil))) .nil) = .iface 98 (.agg #[.iface R0 q0, .iface R1 q1]) := by
      show pv 7 xn (pvs ((w1 g st d y0 k0 s).1.app ((w1 g st (d + 1) y1 k1 (w1 g st d y0 k0 s).2).1.app (.nil)))) = _
      simp only [pvs_app, pvs_one f0, pvs_one f1, pvs]
      simp [pv, e0, e1]
    rw [hw]
    simp only
    rw [hr, hp]
    exact with_let fid cap cb ob s d (by omega) T0 u0 R0 q0 _ T1 u1 R1 q1 _ c0 c1 w hcb hinv
end
end Go.Proofs.Ytjalakdpmglamaa.W

/-
  Some texts of this proof in one: TeLb, TeLs, TeLx, TeLa.
-/
import Derived.Test.YtjmgnljjeogdlaaJar
import Derived.Test.YtjmgnljjeogdlaaJan
import Derived.Test.YtjmgnljjeogdlaaJab
import Derived.Test.YtjmgnljjeogdlaaJad
import Derived.Deep.RegionHeld3
import Derived.Test.YtjmgnljjeogdlaaJap
import Derived.Maps.AppendAt
import Derived.Laws.OwnMore
/-
  All that a term leads to at once: what each of these is made of, and what bounds its variables. No program here.
-/
namespace Go.Proofs.Ytjmgnljjeogdlaa.W
set_option linter.unusedVariables false

/-- Some redexes contracted at once, each with room. -/
def ldr : F → F → Prop
  | .nil, a' => a' = .nil
  | .cons y ky r, a' => ∃ ky' r', ldr ky ky' ∧ ldr r r' ∧ ky'.flat.length + 1 ≤ 600 ∧ (a' = .cons y ky' r' ∨ (redx y ky = true ∧ ∃ p, ctrO y ky' = some p ∧ a' = .cons p.1 p.2 r'))
theorem ldr_len : ∀ {a a' : F}, ldr a a' → a'.len = a.len
  | .nil, a', h => by simp only [ldr] at h; rw [h]
  | .cons y ky r, a', h => by
    simp only [ldr] at h
    obtain ⟨ky', r', h1, h2, h3, h4 | ⟨h5, p, h6, h7⟩⟩ := h
    · rw [h4, F.len, ldr_len h2, F.len]
    · rw [h7, F.len, ldr_len h2, F.len]
theorem ldr_plain {y : Cc} {ky r a' : F} (hr : redx y ky = false) (h : ldr (.cons y ky r) a') : ∃ ky' r', ldr ky ky' ∧ ldr r r' ∧ a' = .cons y ky' r' := by
  simp only [ldr] at h
  obtain ⟨ky', r', h1, h2, h3, h4 | ⟨h5, -⟩⟩ := h
  · exact ⟨ky', r', h1, h2, h4⟩
  · rw [hr] at h5; cases h5
theorem ldr_split {y : Cc} {ky r a' : F} (h : ldr (.cons y ky r) a') : ∃ (p : Cc × F) (r' : F), ldr r r' ∧ a' = .cons p.1 p.2 r' ∧ ldr (.cons y ky .nil) (.cons p.1 p.2 .nil) := by
  simp only [ldr] at h
  obtain ⟨ky', r', h1, h2, h3, h4 | ⟨h5, p, h6, h7⟩⟩ := h
  · exact ⟨(y, ky'), r', h2, h4, by simp only [ldr]; exact ⟨ky', .nil, h1, rfl, h3, .inl rfl⟩⟩
  · exact ⟨p, r', h2, h7, by simp only [ldr]; exact ⟨ky', .nil, h1, rfl, h3, .inr ⟨h5, p, h6, rfl⟩⟩⟩
theorem ldr_nil {a' : F} (h : ldr .nil a') : a' = .nil := h
theorem ldr_red {x : Cc} {k k' : F} {B : Int} (hok : okT x k) (hr : redx x k = true) (h : ldr k k') (hB : k'.okB B) : RedW x k' B := by
  cases red_of hok hr with
  | app y d z kd kz hx hk' hy hd hz =>
    subst hk'
    obtain ⟨ky', r', h1, h2, rfl⟩ := ldr_plain (by simp [redx, hy]) h
    obtain ⟨q, r2, h3, rfl, -⟩ := ldr_split h1
    obtain rfl := ldr_nil h3
    obtain ⟨q2, r3, h6, rfl, -⟩ := ldr_split h2
    obtain rfl := ldr_nil h6
    exact .app _ q.1 q2.1 q.2 q2.2 hx rfl hy hB.2.2.1 hB.2.2.2
  | lett y d ky kd hx hk' hy hd =>
    subst hk'
    obtain ⟨p, r', h2, rfl, -⟩ := ldr_split h
    obtain ⟨q2, r3, h6, rfl, -⟩ := ldr_split h2
    obtain rfl := ldr_nil h6
    exact .lett p.1 q2.1 p.2 q2.2 hx rfl ⟨hB.1, hB.2.1, hB.2.2.1, trivial⟩ hB.2.2.2
  | add y z hx hk' hy hz hyn hzn hs =>
    subst hk'
    obtain ⟨ky', r', h1, h2, rfl⟩ := ldr_plain (by simp [redx, hy]) h
    obtain rfl := ldr_nil h1
    obtain ⟨kz', r2, h3, h4, rfl⟩ := ldr_plain (by simp [redx, hz]) h2
    obtain rfl := ldr_nil h3
    obtain rfl := ldr_nil h4
    exact .add _ _ hx rfl hy hz hyn hzn hs
  | iff y z u kz ku hx hk' hy hz hu =>
    subst hk'
    obtain ⟨ky', r', h1, h2, rfl⟩ := ldr_plain (by simp [redx, hy]) h
    obtain rfl := ldr_nil h1
    obtain ⟨q2, r3, h6, rfl, -⟩ := ldr_split h2
    obtain ⟨q3, r4, h8, rfl, -⟩ := ldr_split h6
    obtain rfl := ldr_nil h8
    exact .iff _ q2.1 q3.1 q2.2 q3.2 hx rfl hy ⟨hB.2.2.2.1, hB.2.2.2.2.1, hB.2.2.2.2.2.1, trivial⟩ hB.2.2.2.2.2.2
theorem ldr_B : ∀ {a a' : F}, a.ok → a.flat.length ≤ 600 → ldr a a' → a'.okB (99 + 600 * a.flat.length)
  | .nil, a', _, _, h => by rw [ldr_nil h]; trivial
  | .cons y ky r, a', hok, hl, h => by
    have hf : (F.cons y ky r).flat.length = ky.flat.length + r.flat.length + 1 := by simp [F.flat]
    rw [hf] at hl ⊢
    simp only [ldr] at h
    obtain ⟨ky', r', h1, h2, h6, h4⟩ := h
    have hr := ldr_B hok.2.2.2 (by omega) h2
    have hk := ldr_B hok.2.2.1 (by omega) h1
    rcases h4 with rfl | ⟨hrd, p, hp, rfl⟩
    · exact ⟨gB_mono (gB_of hok.1) (by omega), by rw [ldr_len h1]; exact hok.2.1, okB_mono (by omega) hk, okB_mono (by omega) hr⟩
    · have := (ctrO_B (ldr_red ⟨hok.1, hok.2.1, hok.2.2.1⟩ hrd h1 hk) (by omega) (by omega) h6 hp).1
      exact ⟨gB_mono this.1 (by omega), this.2.1, okB_mono (by omega) this.2.2.1, okB_mono (by omega) hr⟩
theorem okB_ard {B : Int} : ∀ {a : F}, a.okB B → a.ard
  | .nil, _ => trivial
  | .cons x k r, h => ⟨h.2.1, okB_ard h.2.2.1, okB_ard h.2.2.2⟩

theorem ldA_mem {l : List (Cc × F)} {p q : Cc × F} (h : q ∈ ldA l p) : q ∈ l ∨ q = p := by
  unfold ldA at h
  split at h
  · exact .inl h
  · rw [List.mem_append, List.mem_singleton] at h; exact h
theorem ldC_mem (x : Cc) : ∀ (ws : List F) (out res : List (Cc × F)), ldC x out ws = some res → ∀ q ∈ res, q ∈ out ∨ ∃ w ∈ ws, ctrO x w = some q
  | [], out, res, h, q, hq => by simp only [ldC, Option.some.injEq] at h; rw [h]; exact .inl hq
  | w :: r, out, res, h, q, hq => by
    rw [ldC] at h
    cases hc : ctrO x w with
    | none => rw [hc] at h; cases h
    | some p =>
      rw [hc] at h
      rcases ldC_mem x r _ res h q hq with h1 | ⟨v, hv, h2⟩
      · rcases ldA_mem h1 with h3 | rfl
        · exact .inl h3
        · exact .inr ⟨w, by simp, hc⟩
      · exact .inr ⟨v, by simp [hv], h2⟩
theorem ldX_mem {x : Cc} {k : F} {ws : List F} {l : List (Cc × F)} (hw : ∀ w ∈ ws, ldr k w) (h : ldX x (redx x k) ws = some l) : ∀ p ∈ l, ldr (.cons x k .nil) (.cons p.1 p.2 .nil) := by
  intro p hp
  unfold ldX at h
  split at h
  · cases h
  · rename_i h6
    have h6' : ∀ w ∈ ws, w.flat.length + 1 ≤ 600 := fun w hw' => by
      apply Classical.byContradiction
      intro hn
      exact h6 ⟨w, hw', by omega⟩
    split at h
    · rename_i hrd
      cases hc : ldC x (ws.map fun w => (x, w)) ws with
      | none => rw [hc] at h; cases h
      | some out =>
        rw [hc] at h
        simp only at h
        split at h
        · simp only [Option.some.injEq] at h
          rw [← h] at hp
          rcases ldC_mem x _ _ _ hc p hp with h1 | ⟨w, hw1, hw2⟩
          · rw [List.mem_map] at h1
            obtain ⟨w, hw1, rfl⟩ := h1
            simp only [ldr]
            exact ⟨w, .nil, hw w hw1, rfl, h6' w hw1, .inl rfl⟩
          · simp only [ldr]
            exact ⟨w, .nil, hw w hw1, rfl, h6' w hw1, .inr ⟨hrd, p, hw2, rfl⟩⟩
        · cases h
    · split at h
      · simp only [Option.some.injEq] at h
        rw [← h, List.mem_map] at hp
        obtain ⟨w, hw1, rfl⟩ := hp
        simp only [ldr]
        exact ⟨w, .nil, hw w hw1, rfl, h6' w hw1, .inl rfl⟩
      · cases h
theorem ldr_cons {x : Cc} {k r r' : F} {p : Cc × F} (h : ldr (.cons x k .nil) (.cons p.1 p.2 .nil)) (hr : ldr r r') : ldr (.cons x k r) (.cons p.1 p.2 r') := by
  simp only [ldr] at h ⊢
  obtain ⟨ky', r2, h1, h2, h3, h4 | ⟨h5, q, h6, h7⟩⟩ := h
  · simp only [F.cons.injEq] at h4
    exact ⟨ky', r', h1, hr, h3, .inl (by rw [h4.1, h4.2.1])⟩
  · simp only [F.cons.injEq] at h7
    exact ⟨ky', r', h1, hr, h3, .inr ⟨h5, q, h6, by rw [h7.1, h7.2.1]⟩⟩
theorem ldG_mem : ∀ (a : F) (ws us : List F), ldG ws a = some us → ∀ u ∈ us, ∃ w ∈ ws, ∃ a', u = w.app a' ∧ ldr a a'
  | .nil, ws, us, h, u, hu => by
    simp only [ldG, Option.some.injEq] at h
    rw [← h] at hu
    exact ⟨u, hu, .nil, (F.app_nil u).symm, rfl⟩
  | .cons x k r, ws, us, h, u, hu => by
    rw [ldG_cons] at h
    cases ht : ldT x k with
    | none => rw [ht] at h; cases h
    | some l =>
      rw [ht] at h
      simp only at h
      split at h
      · cases h
      · obtain ⟨v, hv, r', rfl, hr⟩ := ldG_mem r _ us h u hu
        unfold ldW at hv
        rw [List.mem_flatMap] at hv
        obtain ⟨w, hw, hv⟩ := hv
        rw [List.mem_map] at hv
        obtain ⟨p, hp, rfl⟩ := hv
        refine ⟨w, hw, .cons p.1 p.2 r', by rw [F.app_assoc]; rfl, ?_⟩
        unfold ldT at ht
        cases hg : ldG [.nil] k with
        | none => rw [hg] at ht; cases ht
        | some vs =>
          rw [hg] at ht
          refine ldr_cons (ldX_mem (fun w hw => ?_) ht p hp) hr
          obtain ⟨w0, hw0, a', rfl, ha⟩ := ldG_mem k _ vs hg w hw
          rw [List.mem_singleton] at hw0
          rw [hw0]
          exact ha
theorem ldT_mem {x : Cc} {k : F} {l : List (Cc × F)} (h : ldT x k = some l) : ∀ p ∈ l, ldr (.cons x k .nil) (.cons p.1 p.2 .nil) := by
  unfold ldT at h
  cases hg : ldG [.nil] k with
  | none => rw [hg] at h; cases h
  | some vs =>
    rw [hg] at h
    refine ldX_mem (fun w hw => ?_) h
    obtain ⟨w0, hw0, a', rfl, ha⟩ := ldG_mem k _ vs hg w hw
    rw [List.mem_singleton] at hw0
    rw [hw0]
    exact ha
end Go.Proofs.Ytjmgnljjeogdlaa.W

/-
  Whether two of the specification's trees are the same: a contract of l4Same. Conditions: at most 1048576 cells.
-/
namespace Go.Proofs.Ytjmgnljjeogdlaa.W
open Go.ChangeShapes Go.WideShapes Go.ChangeAt Go.RowKit
set_option linter.unusedVariables false

theorem sameF_one (x y : Cc) (k m : F) : sameF (.cons x k .nil) (.cons y m .nil) = (decide (x.k = y.k) && (decide (x.n = y.n) && sameF k m)) := by
  simp only [sameF, Bool.and_true]
theorem sameF_len : ∀ {a b : F}, sameF a b = true → a.len = b.len := fun h => by rw [(sameF_iff _ _).1 h]
def SMGoal (k : F) : Prop := ∀ (x y : Cc) (m : F) (s t : Value) (P Q : Nat → Prop) (w : World), k.flat.length ≤ 1048576 → KidT w P k s → KidT w Q m t →
    Calls Try.prog 39 #[.agg #[.int .i64 x.k, .int .i64 x.n, s], .agg #[.int .i64 y.k, .int .i64 y.n, t]] w fun e w' => e = .returned (.bool (sameF (.cons x k .nil) (.cons y m .nil))) ∧ Below w.heap.size w w'

set_option maxRecDepth 20000 in
set_option maxHeartbeats 4000000 in
theorem l4Same_any : ∀ k, SMGoal k := by
  apply F.rec_kids
  intro k ih x y m s t P Q w hfl hT hU
  have IH := hide ih
  have HT := hide hT
  have HU := hide hU
  obtain ⟨sad, sc, rfl⟩ := hT.form
  obtain ⟨tad, tc, rfl⟩ := hU.form
  have hkl := F.len_flat k
  obtain ⟨KL, hKL⟩ : ∃ KL, KL = k.len := ⟨_, rfl⟩
  obtain ⟨ML, hML⟩ : ∃ ML, ML = m.len := ⟨_, rfl⟩
  have HSm := hide (sameF_one x y k m)
  rw [← hKL] at HT hkl ⊢
  rw [← hML] at HU ⊢
  have HKL := hide hKL
  have HML := hide hML
  obtain ⟨SM, hSM⟩ : ∃ SM, SM = sameF (.cons x k .nil) (.cons y m .nil) := ⟨_, rfl⟩
  rw [← hSM] at HSm ⊢
  have hB0 : Below w.heap.size w ((w.alloc (.cells #[.int .i64 x.k, .int .i64 x.n, .slice sad KL sc] 55)).alloc (.cells #[.int .i64 y.k, .int .i64 y.n, .slice tad ML tc] 55)) := ((Below.refl _ _).alloc (Nat.le_refl _) _).alloc (by simp) _
  clear ih hT hU hKL hML hSM
  by_cases h1 : x.k = y.k
  · by_cases h2 : x.n = y.n
    · by_cases h3 : KL = ML
      · subst h3
        have HSm2 : Hid (SM = sameF k m) := hide (by rw [HSm.out, decide_eq_true h1, decide_eq_true h2]; rfl)
        rw [h1, h2] at hB0 ⊢
        clear HSm h1 h2
        go_enter Try.func39, Try.ntmps39
        go_wp2_with fail
        obtain ⟨w0, hw0⟩ : ∃ w0, w0 = (w.alloc (.cells #[.int .i64 y.k, .int .i64 y.n, .slice sad KL sc] 55)).alloc (.cells #[.int .i64 y.k, .int .i64 y.n, .slice tad KL tc] 55) := ⟨_, rfl⟩
        have hsz0 : w0.heap.size = w.heap.size + 1 + 1 := by rw [hw0]; simp
        have hbS : w0.heap[w.heap.size]? = some (.cells #[.int .i64 y.k, .int .i64 y.n, .slice sad KL sc] 55) := by rw [hw0, heap_alloc_old _ _ (by simp)]; exact heap_alloc_new _ _
        have hbT : w0.heap[w.heap.size + 1]? = some (.cells #[.int .i64 y.k, .int .i64 y.n, .slice tad KL tc] 55) := by
          rw [hw0]
          have := heap_alloc_new (w.alloc (.cells #[.int .i64 y.k, .int .i64 y.n, .slice sad KL sc] 55)) (.cells #[.int .i64 y.k, .int .i64 y.n, .slice tad KL tc] 55)
          simpa using this
        rw [← hw0] at hB0 ⊢
        have HB0 := hide hB0
        have HBS := hide hbS
        have HBT := hide hbT
        have HSz := hide hsz0
        clear hw0 hbS hbT hsz0 hB0
        go_loopw [30] (fun i w' => ∃ a b c d : F, k = a.app b ∧ m = c.app d ∧ a.len = c.len ∧ sameF a c = true ∧ i = .int .i64 (a.len : Int) ∧ Below w0.heap.size w0 w') (fun i _ => KL - (intOf i).toNat)
        case atStart => exact ⟨.nil, k, .nil, m, rfl, rfl, rfl, rfl, rfl, Below.refl _ _⟩
        case round =>
          obtain ⟨a, b, c, d, hk, hm, hac, hsm, rfl, hBr⟩ := hrel
          have HBr := hide hBr
          have HBw : Hid (Below w.heap.size w wr) := hide (HB0.out.trans (hBr.mono HB0.out.size))
          cases b with
          | nil =>
            cases d with
            | cons _ _ _ =>
              exfalso
              have e1 := HKL.out
              have e2 := HML.out
              rw [hk, F.app_len] at e1
              rw [hm, F.app_len] at e2
              simp only [F.len] at e1 e2
              omega
            | nil =>
              rw [F.app_nil] at hk hm
              subst hk hm
              have hSM : SM = true := by rw [HSm2.out]; exact hsm
              subst hSM
              have hKL := HKL.out
              rw [← hKL]
              clear hKL hBr hsm hac
              go_wp2_with fail
              go_ret
              exact ⟨rfl, HBw.out⟩
          | cons z kz b =>
            cases d with
            | nil =>
              exfalso
              have e1 := HKL.out
              have e2 := HML.out
              rw [hk, F.app_len] at e1
              rw [hm, F.app_len] at e2
              simp only [F.len] at e1 e2
              omega
            | cons v kv d =>
              have hkl2 : KL = a.len + (b.len + 1) := by rw [HKL.out, hk, F.app_len]; rfl
              have hlt' : (a.len : Int) < (KL : Int) := by omega
              have hd0 : (0 : Int) ≤ (a.len : Int) := by omega
              have hfk : k.flat.length = a.flat.length + (1 + kz.flat.length + b.flat.length) := by rw [hk, F.app_flat]; simp [F.flat]; omega
              have hI := IH.out
              rw [hk] at hI
              obtain ⟨g, cap, sz', he, hPg, hg, hTz, p0, p1, p2⟩ := KidT.kid (a := a) (k := kz) (r := b) (x := z) (s := .slice sad KL sc) (by rw [← hk]; exact HT.out)
              simp only [Value.slice.injEq] at he
              obtain ⟨rfl, -, rfl⟩ := he
              obtain ⟨g2, cap2, sv', he2, hPg2, hg2, hTv, r0, r1, r2⟩ := KidT.kid (a := c) (k := kv) (r := d) (x := v) (s := .slice tad KL tc) (by rw [← hm]; exact HU.out)
              simp only [Value.slice.injEq] at he2
              obtain ⟨rfl, -, rfl⟩ := he2
              rw [← hac] at r0 r1 r2
              have HC := hide (fun (w' : World) (hw' : Below w.heap.size w w') => F.all_at hI z v kv sz' sv' P Q w' (by omega) (hTz.below hw') (hTv.below hw'))
              obtain ⟨zad, zc, rfl⟩ := hTz.form
              obtain ⟨vad, vc, rfl⟩ := hTv.form
              have HSn := hide (hk.trans (F.app_snoc a kz b z))
              have HSn2 := hide (hm.trans (F.app_snoc c kv d v))
              have HDl : Hid ((a.app (.cons z kz .nil)).len = a.len + 1) := hide (by rw [F.app_len]; rfl)
              have HDl2 : Hid ((c.app (.cons v kv .nil)).len = a.len + 1) := hide (by rw [F.app_len, hac]; rfl)
              obtain ⟨CM, hCM⟩ : ∃ CM, CM = sameF (.cons z kz .nil) (.cons v kv .nil) := ⟨_, rfl⟩
              have HAp : Hid (sameF (a.app (.cons z kz .nil)) (c.app (.cons v kv .nil)) = CM) := hide (by rw [sameF_app _ _ _ _ hac, hsm, hCM]; rfl)
              have HNo : Hid (CM = false → SM = false) := hide (fun h => by
                rw [HSm2.out, HSn.out, HSn2.out, sameF_app _ _ _ _ (HDl.out.trans HDl2.out.symm), HAp.out, h]; rfl)
              rw [← hCM] at HC
              have hsz0 := HSz.out
              have hzr := HBr.out.size
              have hgw : g < wr.heap.size := by have := HBw.out.size; omega
              have hgw2 : g2 < wr.heap.size := by have := HBw.out.size; omega
              have hl0 : w.heap.size < wr.heap.size := by omega
              have hl1 : w.heap.size + 1 < wr.heap.size := by omega
              have hS := (HBr.out.block w.heap.size (by omega)).trans HBS.out
              have hTt := (HBr.out.block (w.heap.size + 1) (by omega)).trans HBT.out
              obtain ⟨al, hal⟩ : ∃ al, al = a.len := ⟨_, rfl⟩
              obtain ⟨zn, hzn⟩ : ∃ zn, zn = kz.len := ⟨_, rfl⟩
              obtain ⟨vn, hvn⟩ : ∃ vn, vn = kv.len := ⟨_, rfl⟩
              rw [← hal] at hlt' hd0 p0 p1 p2 r0 r1 r2 HDl HDl2 hkl2 ⊢
              rw [← hzn] at HC p2
              rw [← hvn] at HC r2
              have HAll : Hid (∀ w', Below wr.heap.size wr w' → w'.cell? ⟨w.heap.size, 2, none⟩ = some (.slice (some ⟨g, 0, none⟩) KL sc) ∧ w'.cell? ⟨w.heap.size + 1, 2, none⟩ = some (.slice (some ⟨g2, 0, none⟩) KL tc) ∧ w'.cell? ⟨g, al * 3, none⟩ = some (.int .i64 z.k) ∧ w'.cell? ⟨g, al * 3 + 1, none⟩ = some (.int .i64 z.n) ∧ w'.cell? ⟨g, al * 3 + 2, none⟩ = some (.slice zad zn zc) ∧ w'.cell? ⟨g2, al * 3, none⟩ = some (.int .i64 v.k) ∧ w'.cell? ⟨g2, al * 3 + 1, none⟩ = some (.int .i64 v.n) ∧ w'.cell? ⟨g2, al * 3 + 2, none⟩ = some (.slice vad vn vc)) := hide (fun w' hb => ⟨(hb.cell (p := ⟨w.heap.size, 2, none⟩) hl0).trans ((cell_of_blk hS 2).trans rfl), (hb.cell (p := ⟨w.heap.size + 1, 2, none⟩) hl1).trans ((cell_of_blk hTt 2).trans rfl),
                (hb.cell (p := ⟨g, al * 3, none⟩) hgw).trans ((HBw.out.cell (p := ⟨g, al * 3, none⟩) hg).trans p0), (hb.cell (p := ⟨g, al * 3 + 1, none⟩) hgw).trans ((HBw.out.cell (p := ⟨g, al * 3 + 1, none⟩) hg).trans p1), (hb.cell (p := ⟨g, al * 3 + 2, none⟩) hgw).trans ((HBw.out.cell (p := ⟨g, al * 3 + 2, none⟩) hg).trans p2),
                (hb.cell (p := ⟨g2, al * 3, none⟩) hgw2).trans ((HBw.out.cell (p := ⟨g2, al * 3, none⟩) hg2).trans r0), (hb.cell (p := ⟨g2, al * 3 + 1, none⟩) hgw2).trans ((HBw.out.cell (p := ⟨g2, al * 3 + 1, none⟩) hg2).trans r1), (hb.cell (p := ⟨g2, al * 3 + 2, none⟩) hgw2).trans ((HBw.out.cell (p := ⟨g2, al * 3 + 2, none⟩) hg2).trans r2)⟩)
              have HBd : Hid (Below wr.heap.size wr wr.drew) := hide ⟨rfl, rfl, rfl, Nat.le_refl _, fun _ _ => rfl⟩
              have HC2 : Hid _ := hide (HC.out wr.drew (HBw.out.trans (HBd.out.mono HBw.out.size)))
              obtain ⟨f0, f1, f2, f3, f4, f5, f6, f7⟩ := HAll.out wr.drew HBd.out
              have HKl2 := hide hkl2
              have HSM := hide hsm
              clear p0 p1 p2 r0 r1 r2 hTz hTv hI hk hm hfk hal hzn hvn hCM hS hTt hsz0 hzr hkl2 hac hsm hBr HC
              go_wp2_with fail
              go_region_held3 (fun w' => w'.cell? ⟨w.heap.size, 2, none⟩ = some (.slice (some ⟨g, 0, none⟩) KL sc) ∧ w'.cell? ⟨w.heap.size + 1, 2, none⟩ = some (.slice (some ⟨g2, 0, none⟩) KL tc) ∧ w'.cell? ⟨g, al * 3, none⟩ = some (.int .i64 z.k) ∧ w'.cell? ⟨g, al * 3 + 1, none⟩ = some (.int .i64 z.n) ∧ w'.cell? ⟨g, al * 3 + 2, none⟩ = some (.slice zad zn zc) ∧ w'.cell? ⟨g2, al * 3, none⟩ = some (.int .i64 v.k) ∧ w'.cell? ⟨g2, al * 3 + 1, none⟩ = some (.int .i64 v.n) ∧ w'.cell? ⟨g2, al * 3 + 2, none⟩ = some (.slice vad vn vc)) (first | (with_reducible exact HAll.out _ HBd.out) | (with_reducible exact HAll.out _ HX1.out))
                (first
                  | ((with_reducible refine Calls.mono HC2.out ?_); rintro e W1 ⟨rfl, hx⟩; have HX1 : Hid (Below wr.heap.size wr W1) := hide (HBd.out.trans (hx.mono HBd.out.size)); clear hx))
              clear f0 f1 f2 f3 f4 f5 f6 f7
              cases CM with
              | false =>
                have hSM := HNo.out rfl
                subst hSM
                go_wp2_with fail
                go_ret
                exact ⟨rfl, HBw.out.trans (HX1.out.mono HBw.out.size)⟩
              | true =>
                go_wp2_with fail
                have hkl2 := HKl2.out
                exact ⟨⟨a.app (.cons z kz .nil), b, c.app (.cons v kv .nil), d, HSn.out, HSn2.out, HDl.out.trans HDl2.out.symm, HAp.out, by rw [HDl.out]; go_num, HBr.out.trans (HX1.out.mono HBr.out.size)⟩, by simp [intOf]; omega⟩
      · have hSM : SM = false := by
          rw [HSm.out]
          cases hs : sameF k m with
          | false => simp
          | true => exact absurd (by rw [HKL.out, HML.out]; exact sameF_len hs) h3
        subst hSM
        have h3' : ¬ (KL : Int) = (ML : Int) := by omega
        rw [h1, h2] at hB0 ⊢
        clear HSm h1 h2
        go_enter Try.func39, Try.ntmps39
        go_wp2_with fail
        go_ret
        exact ⟨rfl, hB0⟩
    · have hSM : SM = false := by rw [HSm.out, decide_eq_false h2]; simp
      subst hSM
      rw [h1] at hB0 ⊢
      clear HSm h1
      go_enter Try.func39, Try.ntmps39
      go_wp2_with fail
      go_ret
      exact ⟨rfl, hB0⟩
  · have hSM : SM = false := by rw [HSm.out, decide_eq_false h1]; rfl
    subst hSM
    clear HSm
    go_enter Try.func39, Try.ntmps39
    go_wp2_with fail
    go_ret
    exact ⟨rfl, hB0⟩
end Go.Proofs.Ytjmgnljjeogdlaa.W

/-
  Rows of the specification's trees that are copied and appended to: laws. No program here but types.
-/
namespace Go.Proofs.Ytjmgnljjeogdlaa.W
open Go.ChangeShapes Go.WideShapes Go.ChangeAt Go.RowKit
set_option linter.unusedVariables false
set_option linter.unusedSimpArgs false

/-- What an append of trees is handed. -/
def Sc3 (w : World) (v : Value) (m : Nat) (news : List Value) : Prop := news.length = m * 3 ∧ (∀ u ∈ news, u.oneCell' = true) ∧ ((v = .slice none 0 0 ∧ m = 0) ∨ ∃ ad c, v = .slice (some ad) m c ∧ ∀ j u, news[j]? = some u → w.cell? (ad.add j) = some u)
theorem KidT.sc3 {w : World} {P : Nat → Prop} {a : F} {s : Value} (h : KidT w P a s) : ∃ ck, ∀ w', Below w.heap.size w w' → KidsAt w' P a ck ∧ Sc3 w' s a.len ck := by
  obtain ⟨ck, h1, h2⟩ := h
  refine ⟨ck, fun w' hb => ?_⟩
  have g1 : KidsAt w' P a ck := h1.keep hb.size (fun k hp hk => ⟨hb.block k hk, hp⟩)
  refine ⟨g1, h1.len, h1.one, ?_⟩
  rcases h2 with ⟨h2, h3⟩ | ⟨h2, g, cap, h3, h4, h5, h6⟩
  · exact .inl ⟨h3, h2⟩
  · exact .inr ⟨_, _, h3, fun j u hj => by rw [iAdd, Nat.zero_add]; exact (hb.cell (p := ⟨g, j, none⟩) h5).trans (h6 j u hj)⟩
theorem sc3_box {w : World} {g : Nat} {x : Cc} {s : Value} (hs : s.oneCell' = true) (h : w.heap[g]? = some (.cells #[.int .i64 x.k, .int .i64 x.n, s] 55 (0, 0))) : Sc3 w (.slice (some ⟨g, 0, none⟩) 1 1) 1 (tC x s) := ⟨rfl, tC_one x s hs, .inr ⟨_, _, rfl, tC_cells h⟩⟩
theorem run_app3 (w : World) (ty : TypeId) (base : Nat) (v : Value) (n : Nat) (xs : List Value) (hown : w.ownsRow base 55 3 v n xs) (v2 : Value) (m : Nat) (news : List Value) (hs : Sc3 w v2 m news) (hn : n + m ≤ 100000) (hbase : base ≤ w.heap.size) :
    ∃ v' w', (Builtin.append_ #[53, 53] ty #[v, v2]).run Try.prog w = .ok v' w' ∧ w'.ownsRow base 55 3 v' (n + m) (xs ++ news) ∧ w.grownBy w' v.ownBlock ∧ ∀ k, v'.ownBlock = some k → v.ownBlock = some k ∨ k = w.heap.size := by
  obtain ⟨i0, hi0, hz0, hz1, hz2⟩ := infoPartsT infoT
  obtain ⟨hl, h1, ⟨rfl, rfl⟩ | ⟨ad, c, rfl, hnews⟩⟩ := hs
  · have h0 : news = [] := List.length_eq_zero_iff.1 (by rw [hl])
    subst h0
    refine ⟨v, w, run_append_owned_none w base 53 ty 55 i0 3 Try.underlying53 hi0 v n xs hown, by simpa using hown, ⟨rfl, rfl, rfl, Nat.le_refl _, fun _ _ _ => rfl⟩, fun k hk => .inl hk⟩
  · obtain ⟨v', w', hr, h2, h3, -, h5⟩ := run_append_own_at (P := Try.prog) w base 53 ty 55 i0 _ 3 40 Try.underlying53 hi0 hz0 hz1 hz2 rfl (by decide) v n xs hown ad m c news hl hnews h1 (by unfold maxLen; omega) (by omega) hbase
    refine ⟨v', w', hr, h2, h3, fun k hk => ?_⟩
    rcases h5 with h5 | h5
    · exact .inl (by rw [← h5]; exact hk)
    · right
      rw [h5] at hk
      simpa using hk.symm
theorem wp_app3 {w : World} {o : Oper} {a : Act} {K : Act → World → Prop} {Q : Exit → Act → World → Prop} (s x : Operand) (ho : o.op = .call { callee := .builtin .append, args := #[s, x], argTypes := #[53, 53] })
    (base : Nat) (v : Value) (n : Nat) (xs : List Value) (hv : a.eval s = v) (hown : w.ownsRow base 55 3 v n xs) (v2 : Value) (m : Nat) (news : List Value) (hx : a.eval x = v2) (hs : Sc3 w v2 m news) (hn : n + m ≤ 100000) (hbase : base ≤ w.heap.size)
    (h : ∀ v' w', w'.ownsRow base 55 3 v' (n + m) (xs ++ news) → w.grownBy w' v.ownBlock → (∀ k, v'.ownBlock = some k → v.ownBlock = some k ∨ k = w.heap.size) → K (a.put o.dst v') w') : o.wp Try.prog a w K Q := by
  obtain ⟨v', w', hr, h2, h3, h4⟩ := run_app3 w o.type base v n xs hown v2 m news hs hn hbase
  unfold Oper.wp execOp
  simp only [ho, resolve, invoke, builtin, Sem.run_bind, Sem.run_pure, Result.andThen_ok, List.map_toArray, List.map_cons, List.map_nil, hv, hx, hr]
  exact h v' w' h2 h3 h4
theorem step_app3 {w : World} {ops : Array Oper} {o : Oper} {a : Act} {K : Act → World → Prop} {Q : Exit → Act → World → Prop} {E : Prop} (hg : o.guard = none) (s x : Operand) (ho : o.op = .call { callee := .builtin .append, args := #[s, x], argTypes := #[53, 53] })
    (base : Nat) (v : Value) (n : Nat) (xs : List Value) (hv : a.eval s = v) (hown : w.ownsRow base 55 3 v n xs) (v2 : Value) (m : Nat) (news : List Value) (hx : a.eval x = v2) (hs : Sc3 w v2 m news) (hn : n + m ≤ 100000) (hbase : base ≤ w.heap.size)
    (h : ∀ v' w', w'.ownsRow base 55 3 v' (n + m) (xs ++ news) → w.grownBy w' v.ownBlock → (∀ k, v'.ownBlock = some k → v.ownBlock = some k ∨ k = w.heap.size) → K (a.put o.dst v') w') : if Region.wanted o (yielded ops a.tmps) = true then Oper.wp Try.prog o a w K Q else E := by
  have hw : Region.wanted o (yielded ops a.tmps) = true := by simp [Region.wanted, hg]
  rw [if_pos hw]
  exact wp_app3 s x ho base v n xs hv hown v2 m news hx hs hn hbase h
/-- A row of trees copied, with one more. -/
theorem kid_copied {w : World} {B n : Nat} {V st : Value} {ck : List Value} {a : F} {p : Cc × F} {R : Nat → Prop} (ho : w.ownsRow B 55 3 V (n + 1) (ck ++ tC p.1 st)) (hn : n = a.len) (hk : KidsAt w R a ck) (hp : KidT w R p.2 st) (hR : ∀ k, V.ownBlock = some k → B ≤ k → R k) : KidT w R (a.app (.cons p.1 p.2 .nil)) V := by
  refine ⟨ck ++ tC p.1 st, KidsAt.app hk ⟨st, [], (List.append_nil _).symm, hp, rfl⟩, .inr ⟨by rw [F.app_len]; simp [F.len], ?_⟩⟩
  obtain ⟨g, cap, e1, e2, e3, e4⟩ := tOwn_lies ho (by omega)
  exact ⟨g, cap, by rw [F.app_len, ← hn]; exact e1, hR g (by rw [e1]; rfl) e2, e3, e4⟩
def TT : Nat → Prop := fun _ => True
theorem KidT.tt {w : World} {P : Nat → Prop} {a : F} {s : Value} (h : KidT w P a s) : KidT w TT a s := h.weak (fun _ _ _ => trivial)
theorem KidT.lt {w : World} {P : Nat → Prop} {a : F} {s : Value} (h : KidT w P a s) : KidT w (fun g => g < w.heap.size) a s := h.weak (fun _ _ h => h)
/-- A term more, once, as trees tell it. -/
theorem ldA_F {out : List (Cc × F)} {p : Cc × F} (ho : ∀ q ∈ out, (F.cons q.1 q.2 .nil).ard) (hp : (F.cons p.1 p.2 .nil).ard) : ldA out p = if (out.any fun q => sameF (.cons q.1 q.2 .nil) (.cons p.1 p.2 .nil)) = true then out else out ++ [p] := by
  unfold ldA
  have : (out.any fun q => sameR (q.1 :: q.2.flat) (p.1 :: p.2.flat)) = (out.any fun q => sameF (.cons q.1 q.2 .nil) (.cons p.1 p.2 .nil)) := by
    rw [Bool.eq_iff_iff, List.any_eq_true, List.any_eq_true]
    have e : ∀ q ∈ out, sameR (q.1 :: q.2.flat) (p.1 :: p.2.flat) = sameF (.cons q.1 q.2 .nil) (.cons p.1 p.2 .nil) := fun q hq => by
      have := same_flat (ho q hq) hp rfl
      simpa [F.flat] using this
    exact ⟨fun ⟨q, h1, h2⟩ => ⟨q, h1, by rw [← e q h1]; exact h2⟩, fun ⟨q, h1, h2⟩ => ⟨q, h1, by rw [e q h1]; exact h2⟩⟩
  rw [this]
end Go.Proofs.Ytjmgnljjeogdlaa.W

/-
  A tree put behind others, once: the specification's l4Add. Conditions: at most 600 trees, of at most 1048576 cells. Written by wip/build/mk_lladd.py.
-/
namespace Go.Proofs.Ytjmgnljjeogdlaa.W
open Go.ChangeShapes Go.WideShapes Go.ChangeAt Go.RowKit
set_option linter.unusedVariables false
set_option linter.unusedSimpArgs false

theorem toF_split {out A B : List (Cc × F)} {q : Cc × F} (h : out = A ++ q :: B) : toF out = (toF A).app (.cons q.1 q.2 (toF B)) := by rw [h, toF_app]; rfl

set_option maxRecDepth 20000 in
set_option maxHeartbeats 8000000 in
theorem l4Add_any (out : List (Cc × F)) (p : Cc × F) (s st : Value) (w : World) (ho : KidT w TT (toF out) s) (hp : KidT w TT p.2 st) (hl : out.length ≤ 600) (hf : ∀ q ∈ out, q.2.flat.length ≤ 1048576) (hd : ∀ q ∈ out, (F.cons q.1 q.2 .nil).ard) (hpd : (F.cons p.1 p.2 .nil).ard) :
    Calls Try.prog 70 #[s, .agg #[.int .i64 p.1.k, .int .i64 p.1.n, st]] w fun e w' => ∃ s', e = .returned s' ∧ KidT w' TT (toF (ldA out p)) s' ∧ Below w.heap.size w w' := by
  have HA := hide (ldA_F hd hpd)
  have HT := hide ho
  have HPk := hide hp
  have HF := hide hf
  obtain ⟨sad, sc, hsf⟩ := ho.form
  obtain ⟨pad, pc, hpf⟩ := hp.form
  rw [toF_len] at hsf
  subst hsf
  subst hpf
  obtain ⟨ON, hON⟩ : ∃ ON, ON = out.length := ⟨_, rfl⟩
  obtain ⟨PN, hPN⟩ : ∃ PN, PN = p.2.len := ⟨_, rfl⟩
  obtain ⟨R, hR⟩ : ∃ R, R = ldA out p := ⟨_, rfl⟩
  rw [← hON] at HT hl ⊢
  rw [← hPN] at HPk ⊢
  rw [← hR] at HA ⊢
  obtain ⟨pk, hpk⟩ : ∃ pk, pk = p.1.k := ⟨_, rfl⟩
  obtain ⟨pn, hpn⟩ : ∃ pn, pn = p.1.n := ⟨_, rfl⟩
  rw [← hpk, ← hpn]
  have HPe : Hid (p.1 = ⟨pk, pn⟩) := hide (by rw [hpk, hpn])
  have HON := hide hON
  clear ho hp hf hd hpd hON hPN hR hpk hpn
  have hB0 : Below w.heap.size w (w.alloc (.cells #[.int .i64 pk, .int .i64 pn, .slice pad PN pc] 55)) := (Below.refl _ _).alloc (Nat.le_refl _) _
  go_enter Try.func70, Try.ntmps70
  go_wp2_with fail
  obtain ⟨w0, hw0⟩ : ∃ w0, w0 = w.alloc (.cells #[.int .i64 pk, .int .i64 pn, .slice pad PN pc] 55) := ⟨_, rfl⟩
  have hbT : w0.heap[w.heap.size]? = some (.cells #[.int .i64 pk, .int .i64 pn, .slice pad PN pc] 55 (0, 0)) := by rw [hw0]; exact heap_alloc_new _ _
  have hs0 : w.heap.size < w0.heap.size := by rw [hw0]; simp
  rw [← hw0] at hB0 ⊢
  have HB0 := hide hB0
  have HbT := hide hbT
  clear hw0 hB0 hbT
  go_loopw [9] (fun i w' => ∃ A B : List (Cc × F), out = A ++ B ∧ i = .int .i64 (A.length : Int) ∧ (A.any fun q => sameF (.cons q.1 q.2 .nil) (.cons p.1 p.2 .nil)) = false ∧ Below w0.heap.size w0 w') (fun i _ => ON - (intOf i).toNat)
  case atStart => exact ⟨[], out, rfl, rfl, rfl, Below.refl _ _⟩
  case round =>
    obtain ⟨A, B, hAB, rfl, hno, hBr⟩ := hrel
    have HNoA := hide hno
    have HBr := hide hBr
    have HBw : Hid (Below w.heap.size w wr) := hide (HB0.out.trans (hBr.mono HB0.out.size))
    have hT := (hBr.block w.heap.size hs0).trans HbT.out
    have hsr : w.heap.size < wr.heap.size := by have := hBr.size; omega
    clear hno hBr
    cases B with
    | nil =>
      rw [List.append_nil] at hAB
      subst hAB
      have hl1 := HON.out
      rw [← hl1]
      have HNo : Hid (R = out ++ [p]) := hide (by rw [HA.out, if_neg (by rw [HNoA.out]; simp)])
      obtain ⟨ck, hck⟩ := HT.out.sc3
      rw [toF_len, ← hl1] at hck
      have HSc2 := hide (fun (w' : World) (hb : Below wr.heap.size wr w') => hck w' (HBw.out.trans (hb.mono HBw.out.size)))
      have HSc : Hid (∀ w', Below wr.heap.size wr w' → KidsAt w' TT (toF out) ck ∧ Sc3 w' (.slice sad ON sc) ON ck) := hide HSc2.out
      have HScS : Hid (∀ w', Below wr.heap.size wr w' → Sc3 w' (.slice sad ON sc) ON ck) := hide (fun w' hb => (HSc2.out w' hb).2)
      have f0 : wr.cell? ⟨w.heap.size, 0, none⟩ = some (.int .i64 pk) := (cell_of_blk hT 0).trans rfl
      have f1 : wr.cell? ⟨w.heap.size, 1, none⟩ = some (.int .i64 pn) := (cell_of_blk hT 1).trans rfl
      have f2 : wr.cell? ⟨w.heap.size, 2, none⟩ = some (.slice pad PN pc) := (cell_of_blk hT 2).trans rfl
      have ltwheapsize : w.heap.size < wr.heap.size := hsr
      clear hl1 hck HSc2 hT
      go_wp2_with fail
      refine wp_region_noPanic ?_
      refine wp_region_held_drew (S := fun w' => w'.cell? ⟨w.heap.size, 0, none⟩ = some (.int .i64 pk) ∧ w'.cell? ⟨w.heap.size, 1, none⟩ = some (.int .i64 pn) ∧ w'.cell? ⟨w.heap.size, 2, none⟩ = some (.slice pad PN pc)) (by kernel_rfl) ⟨f0, f1, f2⟩ (fun hHeld => ?_)
      refine wpAnyH_take (i := 1) (oi := _) (v := ?_) rfl (by kernel_rfl) (by kernel_rfl) (by kernel_rfl) (fun _ _ _ h => h) (Or.inl ⟨by rfl, ?_⟩) (by assumption) ?_
      rotate_left 1
      · (intro w hSw; (try dsimp only at hSw); (first | (go_simp; done) | (go_simp; with_reducible rfl)))
      try simp only [Act.put, List.getElem_toArray, List.getElem_cons_zero, List.getElem_cons_succ, List.setIfInBounds_toArray, List.set_cons_zero, List.set_cons_succ]
      refine wpAnyH_take (i := 3) (oi := _) (v := ?_) rfl (by kernel_rfl) (by kernel_rfl) (by kernel_rfl) (fun _ _ _ h => h) (Or.inl ⟨by rfl, ?_⟩) (by assumption) ?_
      rotate_left 1
      · (intro w hSw; (try dsimp only at hSw); (first | (go_simp; done) | (go_simp; with_reducible rfl)))
      try simp only [Act.put, List.getElem_toArray, List.getElem_cons_zero, List.getElem_cons_succ, List.setIfInBounds_toArray, List.set_cons_zero, List.set_cons_succ]
      obtain ⟨Wd, hWd⟩ : ∃ Wd, Wd = wr.drew := ⟨_, rfl⟩
      have HBWd : Hid (Below wr.heap.size wr Wd) := hide (by rw [hWd]; exact belowDrew (Below.refl _ _))
      have hsd : wr.heap.size ≤ Wd.heap.size := HBWd.out.size
      rw [← hWd]
      clear hWd
      refine wpAnyH_ready (rs := [0, 4]) (by kernel_rfl) (by simp) ?_
      refine AllReadyH.cons (o := _) rfl (fun K hK => ?_) (AllReadyH.cons (o := _) rfl (fun K hK => ?_) AllReadyH.nil)
      · have hw3 : Below wr.heap.size wr (Wd.alloc (.cells #[] 55)) := HBWd.out.alloc HBWd.out.size _
        have HBw3x := hide hw3
        have k0 := (HBw3x.out.cell (p := ⟨w.heap.size, 0, none⟩) ltwheapsize).trans f0
        have k1 := (HBw3x.out.cell (p := ⟨w.heap.size, 1, none⟩) ltwheapsize).trans f1
        have k2 := (HBw3x.out.cell (p := ⟨w.heap.size, 2, none⟩) ltwheapsize).trans f2
        go_simp
        refine hK.out _ _ ⟨k0, k1, k2⟩ (fun hHeld => ?_)
        clear hK K
        try simp only [Act.put, List.getElem_toArray, List.getElem_cons_zero, List.getElem_cons_succ, List.setIfInBounds_toArray, List.set_cons_zero, List.set_cons_succ]
        have hEn : (Wd.alloc (.cells #[] 55)).heap[Wd.heap.size]? = some (.cells #[] 55 (0, 0)) := heap_alloc_new _ _
        obtain ⟨w3, hw3e⟩ : ∃ w3, w3 = Wd.alloc (.cells #[] 55) := ⟨_, rfl⟩
        have hszw3 : w3.heap.size = Wd.heap.size + 1 := by rw [hw3e]; simp
        rw [← hw3e] at hEn HBw3x ⊢
        have HBw3 := HBw3x
        have HE := hide hEn
        have hltE : Wd.heap.size < w3.heap.size := by omega
        have hslw3 : Wd.heap.size < w3.heap.size := by omega
        have hsWw3 : wr.heap.size ≤ w3.heap.size := by omega
        have Hszw3 := hide hszw3
        clear hw3 hw3e hszw3
        refine wpAnyH_ready (rs := [2, 4]) (by kernel_rfl) (by simp) ?_
        refine AllReadyH.cons (o := _) rfl (fun K hK => ?_) (AllReadyH.cons (o := _) rfl (fun K hK => ?_) AllReadyH.nil)
        · refine step_app3 rfl _ _ rfl wr.heap.size (.slice (some ⟨Wd.heap.size, 0, none⟩) 0 0) 0 [] rfl (own0 HE.out (by omega)) _ ON ck rfl (HScS.out w3 HBw3.out) ?_ ?_ ?_
          · omega
          · exact HBw3.out.size
          intro v1 w1 hown1 hgrow1 hap1
          have HBw4 : Hid (Below wr.heap.size wr w1) := hide (HBw3.out.grown hgrow1 HBw3.out.size (fun k hk => by have h0 : Wd.heap.size = k := (by simpa [Value.ownBlock] using hk); omega))
          have hown1' : w1.ownsRow wr.heap.size 55 3 v1 ON ck := by simpa using hown1
          obtain ⟨v1a, v1c, rfl⟩ := iOwn_form hown1'
          have HO1 := hide hown1'
          have hs1 : wr.heap.size ≤ w1.heap.size := HBw4.out.size
          have k0 := (HBw4.out.cell (p := ⟨w.heap.size, 0, none⟩) ltwheapsize).trans f0
          have k1 := (HBw4.out.cell (p := ⟨w.heap.size, 1, none⟩) ltwheapsize).trans f1
          have k2 := (HBw4.out.cell (p := ⟨w.heap.size, 2, none⟩) ltwheapsize).trans f2
          clear hown1 hgrow1 hap1 hown1'
          refine hK.out _ _ ⟨k0, k1, k2⟩ (fun hHeld => ?_)
          clear hK K
          try simp only [Act.put, List.getElem_toArray, List.getElem_cons_zero, List.getElem_cons_succ, List.setIfInBounds_toArray, List.set_cons_zero, List.set_cons_succ]
          obtain ⟨w4, hw4e⟩ : ∃ w4, w4 = w1 := ⟨_, rfl⟩
          subst hw4e
          refine wpAnyH_ready (rs := [4]) (by kernel_rfl) (by simp) ?_
          refine AllReadyH.cons (o := _) rfl (fun K hK => ?_) AllReadyH.nil
          have hw5 : Below wr.heap.size wr (w4.alloc (.cells #[.int .i64 pk, .int .i64 pn, .slice pad PN pc] 55)) := HBw4.out.alloc HBw4.out.size _
          have HBw5x := hide hw5
          have k0 := (HBw5x.out.cell (p := ⟨w.heap.size, 0, none⟩) ltwheapsize).trans f0
          have k1 := (HBw5x.out.cell (p := ⟨w.heap.size, 1, none⟩) ltwheapsize).trans f1
          have k2 := (HBw5x.out.cell (p := ⟨w.heap.size, 2, none⟩) ltwheapsize).trans f2
          go_simp
          refine hK.out _ _ ⟨k0, k1, k2⟩ (fun hHeld => ?_)
          clear hK K
          try simp only [Act.put, List.getElem_toArray, List.getElem_cons_zero, List.getElem_cons_succ, List.setIfInBounds_toArray, List.set_cons_zero, List.set_cons_succ]
          have hBn : (w4.alloc (.cells #[.int .i64 pk, .int .i64 pn, .slice pad PN pc] 55)).heap[w4.heap.size]? = some (.cells #[.int .i64 pk, .int .i64 pn, .slice pad PN pc] 55 (0, 0)) := heap_alloc_new _ _
          have HO1n := hide (World.ownsRow.alloc HO1.out (.cells #[.int .i64 pk, .int .i64 pn, .slice pad PN pc] 55))
          obtain ⟨w5, hw5e⟩ : ∃ w5, w5 = w4.alloc (.cells #[.int .i64 pk, .int .i64 pn, .slice pad PN pc] 55) := ⟨_, rfl⟩
          have hszw5 : w5.heap.size = w4.heap.size + 1 := by rw [hw5e]; simp
          rw [← hw5e] at hBn HO1n HBw5x ⊢
          have HBw5 := HBw5x
          have HB := hide hBn
          have hltB : w4.heap.size < w5.heap.size := by omega
          have HO1 := HO1n
          have hslw5 : w4.heap.size < w5.heap.size := by omega
          have hsWw5 : wr.heap.size ≤ w5.heap.size := by omega
          have Hszw5 := hide hszw5
          clear hw5 hw5e hszw5
          refine wpAnyH_ready (rs := [5]) (by kernel_rfl) (by simp) ?_
          refine AllReadyH.cons (o := _) rfl (fun K hK => ?_) AllReadyH.nil
          refine step_app3 rfl _ _ rfl wr.heap.size (.slice v1a ON v1c) ON ck rfl HO1.out _ 1 (tC ⟨pk, pn⟩ (.slice pad PN pc)) rfl (sc3_box (x := ⟨pk, pn⟩) rfl HB.out) ?_ ?_ ?_
          · omega
          · exact HBw5.out.size
          intro v2 w2 hown2 hgrow2 hap2
          have HL1 := hide (fun k hk => (HO1.out.lt k hk).1)
          have HB2 : Hid (Below wr.heap.size wr w2) := hide (HBw5.out.grown hgrow2 HBw5.out.size (fun k hk => HL1.out k hk))
          obtain ⟨v2a, v2c, rfl⟩ := iOwn_form hown2
          have HO2 : Hid (w2.ownsRow wr.heap.size 55 3 (.slice v2a (ON + 1) v2c) (ON + 1) (ck ++ tC ⟨pk, pn⟩ (.slice pad PN pc))) := hide (by simpa using hown2)
          have hs2 : wr.heap.size ≤ w2.heap.size := HB2.out.size
          have g0 := (HB2.out.cell (p := ⟨w.heap.size, 0, none⟩) ltwheapsize).trans f0
          have g1 := (HB2.out.cell (p := ⟨w.heap.size, 1, none⟩) ltwheapsize).trans f1
          have g2 := (HB2.out.cell (p := ⟨w.heap.size, 2, none⟩) ltwheapsize).trans f2
          clear hown2 hgrow2 hap2 HL1
          refine hK.out _ _ ⟨g0, g1, g2⟩ (fun hHeld => ?_)
          clear hK K
          try simp only [Act.put, List.getElem_toArray, List.getElem_cons_zero, List.getElem_cons_succ, List.setIfInBounds_toArray, List.set_cons_zero, List.set_cons_succ]
          refine wpAnyH_take (i := 6) (oi := _) (v := ?_) rfl (by kernel_rfl) (by kernel_rfl) (by kernel_rfl) (fun _ _ _ h => h) (Or.inl ⟨by rfl, ?_⟩) (by assumption) ?_
          rotate_left 1
          · (intro w hSw; (try dsimp only at hSw); (first | (go_simp; done) | (go_simp; with_reducible rfl)))
          try simp only [Act.put, List.getElem_toArray, List.getElem_cons_zero, List.getElem_cons_succ, List.setIfInBounds_toArray, List.set_cons_zero, List.set_cons_succ]
          refine wpAnyH_done (by kernel_rfl) ?_ _
          refine NoPanic.normal ?_
          have HKt : Hid (KidT w2 TT (toF (out ++ [p])) (.slice v2a (ON + 1) v2c)) := hide (by
            rw [toF_app]
            show KidT _ _ ((toF out).app (.cons p.1 p.2 .nil)) _
            rw [HPe.out]
            exact kid_copied (p := (⟨pk, pn⟩, p.2)) HO2.out (by rw [toF_len]; exact HON.out) (HSc.out w2 HB2.out).1 (HPk.out.below (HBw.out.trans (HB2.out.mono HBw.out.size))) (fun _ _ _ => trivial))
          have HBf : Hid (Below w.heap.size w w2) := hide (HBw.out.trans (HB2.out.mono HBw.out.size))
          clear HO2 HB2
          go_wp2_with fail
          go_ret
          exact ⟨_, rfl, by rw [HNo.out]; exact HKt.out, HBf.out⟩
        · have hw4 : Below wr.heap.size wr (w3.alloc (.cells #[.int .i64 pk, .int .i64 pn, .slice pad PN pc] 55)) := HBw3.out.alloc HBw3.out.size _
          have HBw4x := hide hw4
          have k0 := (HBw4x.out.cell (p := ⟨w.heap.size, 0, none⟩) ltwheapsize).trans f0
          have k1 := (HBw4x.out.cell (p := ⟨w.heap.size, 1, none⟩) ltwheapsize).trans f1
          have k2 := (HBw4x.out.cell (p := ⟨w.heap.size, 2, none⟩) ltwheapsize).trans f2
          go_simp
          refine hK.out _ _ ⟨k0, k1, k2⟩ (fun hHeld => ?_)
          clear hK K
          try simp only [Act.put, List.getElem_toArray, List.getElem_cons_zero, List.getElem_cons_succ, List.setIfInBounds_toArray, List.set_cons_zero, List.set_cons_succ]
          have hBn : (w3.alloc (.cells #[.int .i64 pk, .int .i64 pn, .slice pad PN pc] 55)).heap[w3.heap.size]? = some (.cells #[.int .i64 pk, .int .i64 pn, .slice pad PN pc] 55 (0, 0)) := heap_alloc_new _ _
          have hEo : (w3.alloc (.cells #[.int .i64 pk, .int .i64 pn, .slice pad PN pc] 55)).heap[Wd.heap.size]? = some (.cells #[] 55 (0, 0)) := (heap_alloc_old _ _ hltE).trans HE.out
          obtain ⟨w4, hw4e⟩ : ∃ w4, w4 = w3.alloc (.cells #[.int .i64 pk, .int .i64 pn, .slice pad PN pc] 55) := ⟨_, rfl⟩
          have hszw4 : w4.heap.size = w3.heap.size + 1 := by rw [hw4e]; simp
          rw [← hw4e] at hBn hEo HBw4x ⊢
          have HBw4 := HBw4x
          have HB := hide hBn
          have hltB : w3.heap.size < w4.heap.size := by omega
          have HE := hide hEo
          have hltE : Wd.heap.size < w4.heap.size := by omega
          have hslw4 : w3.heap.size < w4.heap.size := by omega
          have hsWw4 : wr.heap.size ≤ w4.heap.size := by omega
          have Hszw4 := hide hszw4
          clear hw4 hw4e hszw4
          refine wpAnyH_ready (rs := [2]) (by kernel_rfl) (by simp) ?_
          refine AllReadyH.cons (o := _) rfl (fun K hK => ?_) AllReadyH.nil
          refine step_app3 rfl _ _ rfl wr.heap.size (.slice (some ⟨Wd.heap.size, 0, none⟩) 0 0) 0 [] rfl (own0 HE.out (by omega)) _ ON ck rfl (HScS.out w4 HBw4.out) ?_ ?_ ?_
          · omega
          · exact HBw4.out.size
          intro v1 w1 hown1 hgrow1 hap1
          have HBw5 : Hid (Below wr.heap.size wr w1) := hide (HBw4.out.grown hgrow1 HBw4.out.size (fun k hk => by have h0 : Wd.heap.size = k := (by simpa [Value.ownBlock] using hk); omega))
          have hBo : w1.heap[w3.heap.size]? = some (.cells #[.int .i64 pk, .int .i64 pn, .slice pad PN pc] 55 (0, 0)) := (hgrow1.block w3.heap.size hltB (fun e => by simp [Value.ownBlock] at e; omega)).trans HB.out
          have HB := hide hBo
          have hltB : w3.heap.size < w1.heap.size := by have := hgrow1.size; omega
          have hown1' : w1.ownsRow wr.heap.size 55 3 v1 ON ck := by simpa using hown1
          obtain ⟨v1a, v1c, rfl⟩ := iOwn_form hown1'
          have HO1 := hide hown1'
          have hs1 : wr.heap.size ≤ w1.heap.size := HBw5.out.size
          have k0 := (HBw5.out.cell (p := ⟨w.heap.size, 0, none⟩) ltwheapsize).trans f0
          have k1 := (HBw5.out.cell (p := ⟨w.heap.size, 1, none⟩) ltwheapsize).trans f1
          have k2 := (HBw5.out.cell (p := ⟨w.heap.size, 2, none⟩) ltwheapsize).trans f2
          clear hown1 hgrow1 hap1 hown1'
          refine hK.out _ _ ⟨k0, k1, k2⟩ (fun hHeld => ?_)
          clear hK K
          try simp only [Act.put, List.getElem_toArray, List.getElem_cons_zero, List.getElem_cons_succ, List.setIfInBounds_toArray, List.set_cons_zero, List.set_cons_succ]
          obtain ⟨w5, hw5e⟩ : ∃ w5, w5 = w1 := ⟨_, rfl⟩
          subst hw5e
          refine wpAnyH_ready (rs := [5]) (by kernel_rfl) (by simp) ?_
          refine AllReadyH.cons (o := _) rfl (fun K hK => ?_) AllReadyH.nil
          refine step_app3 rfl _ _ rfl wr.heap.size (.slice v1a ON v1c) ON ck rfl HO1.out _ 1 (tC ⟨pk, pn⟩ (.slice pad PN pc)) rfl (sc3_box (x := ⟨pk, pn⟩) rfl HB.out) ?_ ?_ ?_
          · omega
          · exact HBw5.out.size
          intro v2 w2 hown2 hgrow2 hap2
          have HL1 := hide (fun k hk => (HO1.out.lt k hk).1)
          have HB2 : Hid (Below wr.heap.size wr w2) := hide (HBw5.out.grown hgrow2 HBw5.out.size (fun k hk => HL1.out k hk))
          obtain ⟨v2a, v2c, rfl⟩ := iOwn_form hown2
          have HO2 : Hid (w2.ownsRow wr.heap.size 55 3 (.slice v2a (ON + 1) v2c) (ON + 1) (ck ++ tC ⟨pk, pn⟩ (.slice pad PN pc))) := hide (by simpa using hown2)
          have hs2 : wr.heap.size ≤ w2.heap.size := HB2.out.size
          have g0 := (HB2.out.cell (p := ⟨w.heap.size, 0, none⟩) ltwheapsize).trans f0
          have g1 := (HB2.out.cell (p := ⟨w.heap.size, 1, none⟩) ltwheapsize).trans f1
          have g2 := (HB2.out.cell (p := ⟨w.heap.size, 2, none⟩) ltwheapsize).trans f2
          clear hown2 hgrow2 hap2 HL1
          refine hK.out _ _ ⟨g0, g1, g2⟩ (fun hHeld => ?_)
          clear hK K
          try simp only [Act.put, List.getElem_toArray, List.getElem_cons_zero, List.getElem_cons_succ, List.setIfInBounds_toArray, List.set_cons_zero, List.set_cons_succ]
          refine wpAnyH_take (i := 6) (oi := _) (v := ?_) rfl (by kernel_rfl) (by kernel_rfl) (by kernel_rfl) (fun _ _ _ h => h) (Or.inl ⟨by rfl, ?_⟩) (by assumption) ?_
          rotate_left 1
          · (intro w hSw; (try dsimp only at hSw); (first | (go_simp; done) | (go_simp; with_reducible rfl)))
          try simp only [Act.put, List.getElem_toArray, List.getElem_cons_zero, List.getElem_cons_succ, List.setIfInBounds_toArray, List.set_cons_zero, List.set_cons_succ]
          refine wpAnyH_done (by kernel_rfl) ?_ _
          refine NoPanic.normal ?_
          have HKt : Hid (KidT w2 TT (toF (out ++ [p])) (.slice v2a (ON + 1) v2c)) := hide (by
            rw [toF_app]
            show KidT _ _ ((toF out).app (.cons p.1 p.2 .nil)) _
            rw [HPe.out]
            exact kid_copied (p := (⟨pk, pn⟩, p.2)) HO2.out (by rw [toF_len]; exact HON.out) (HSc.out w2 HB2.out).1 (HPk.out.below (HBw.out.trans (HB2.out.mono HBw.out.size))) (fun _ _ _ => trivial))
          have HBf : Hid (Below w.heap.size w w2) := hide (HBw.out.trans (HB2.out.mono HBw.out.size))
          clear HO2 HB2
          go_wp2_with fail
          go_ret
          exact ⟨_, rfl, by rw [HNo.out]; exact HKt.out, HBf.out⟩
      · have hw3 : Below wr.heap.size wr (Wd.alloc (.cells #[.int .i64 pk, .int .i64 pn, .slice pad PN pc] 55)) := HBWd.out.alloc HBWd.out.size _
        have HBw3x := hide hw3
        have k0 := (HBw3x.out.cell (p := ⟨w.heap.size, 0, none⟩) ltwheapsize).trans f0
        have k1 := (HBw3x.out.cell (p := ⟨w.heap.size, 1, none⟩) ltwheapsize).trans f1
        have k2 := (HBw3x.out.cell (p := ⟨w.heap.size, 2, none⟩) ltwheapsize).trans f2
        go_simp
        refine hK.out _ _ ⟨k0, k1, k2⟩ (fun hHeld => ?_)
        clear hK K
        try simp only [Act.put, List.getElem_toArray, List.getElem_cons_zero, List.getElem_cons_succ, List.setIfInBounds_toArray, List.set_cons_zero, List.set_cons_succ]
        have hBn : (Wd.alloc (.cells #[.int .i64 pk, .int .i64 pn, .slice pad PN pc] 55)).heap[Wd.heap.size]? = some (.cells #[.int .i64 pk, .int .i64 pn, .slice pad PN pc] 55 (0, 0)) := heap_alloc_new _ _
        obtain ⟨w3, hw3e⟩ : ∃ w3, w3 = Wd.alloc (.cells #[.int .i64 pk, .int .i64 pn, .slice pad PN pc] 55) := ⟨_, rfl⟩
        have hszw3 : w3.heap.size = Wd.heap.size + 1 := by rw [hw3e]; simp
        rw [← hw3e] at hBn HBw3x ⊢
        have HBw3 := HBw3x
        have HB := hide hBn
        have hltB : Wd.heap.size < w3.heap.size := by omega
        have hslw3 : Wd.heap.size < w3.heap.size := by omega
        have hsWw3 : wr.heap.size ≤ w3.heap.size := by omega
        have Hszw3 := hide hszw3
        clear hw3 hw3e hszw3
        refine wpAnyH_ready (rs := [0]) (by kernel_rfl) (by simp) ?_
        refine AllReadyH.cons (o := _) rfl (fun K hK => ?_) AllReadyH.nil
        have hw4 : Below wr.heap.size wr (w3.alloc (.cells #[] 55)) := HBw3.out.alloc HBw3.out.size _
        have HBw4x := hide hw4
        have k0 := (HBw4x.out.cell (p := ⟨w.heap.size, 0, none⟩) ltwheapsize).trans f0
        have k1 := (HBw4x.out.cell (p := ⟨w.heap.size, 1, none⟩) ltwheapsize).trans f1
        have k2 := (HBw4x.out.cell (p := ⟨w.heap.size, 2, none⟩) ltwheapsize).trans f2
        go_simp
        refine hK.out _ _ ⟨k0, k1, k2⟩ (fun hHeld => ?_)
        clear hK K
        try simp only [Act.put, List.getElem_toArray, List.getElem_cons_zero, List.getElem_cons_succ, List.setIfInBounds_toArray, List.set_cons_zero, List.set_cons_succ]
        have hEn : (w3.alloc (.cells #[] 55)).heap[w3.heap.size]? = some (.cells #[] 55 (0, 0)) := heap_alloc_new _ _
        have hBo : (w3.alloc (.cells #[] 55)).heap[Wd.heap.size]? = some (.cells #[.int .i64 pk, .int .i64 pn, .slice pad PN pc] 55 (0, 0)) := (heap_alloc_old _ _ hltB).trans HB.out
        obtain ⟨w4, hw4e⟩ : ∃ w4, w4 = w3.alloc (.cells #[] 55) := ⟨_, rfl⟩
        have hszw4 : w4.heap.size = w3.heap.size + 1 := by rw [hw4e]; simp
        rw [← hw4e] at hEn hBo HBw4x ⊢
        have HBw4 := HBw4x
        have HE := hide hEn
        have hltE : w3.heap.size < w4.heap.size := by omega
        have HB := hide hBo
        have hltB : Wd.heap.size < w4.heap.size := by omega
        have hslw4 : w3.heap.size < w4.heap.size := by omega
        have hsWw4 : wr.heap.size ≤ w4.heap.size := by omega
        have Hszw4 := hide hszw4
        clear hw4 hw4e hszw4
        refine wpAnyH_ready (rs := [2]) (by kernel_rfl) (by simp) ?_
        refine AllReadyH.cons (o := _) rfl (fun K hK => ?_) AllReadyH.nil
        refine step_app3 rfl _ _ rfl wr.heap.size (.slice (some ⟨w3.heap.size, 0, none⟩) 0 0) 0 [] rfl (own0 HE.out (by omega)) _ ON ck rfl (HScS.out w4 HBw4.out) ?_ ?_ ?_
        · omega
        · exact HBw4.out.size
        intro v1 w1 hown1 hgrow1 hap1
        have HBw5 : Hid (Below wr.heap.size wr w1) := hide (HBw4.out.grown hgrow1 HBw4.out.size (fun k hk => by have h0 : w3.heap.size = k := (by simpa [Value.ownBlock] using hk); omega))
        have hBo : w1.heap[Wd.heap.size]? = some (.cells #[.int .i64 pk, .int .i64 pn, .slice pad PN pc] 55 (0, 0)) := (hgrow1.block Wd.heap.size hltB (fun e => by simp [Value.ownBlock] at e; omega)).trans HB.out
        have HB := hide hBo
        have hltB : Wd.heap.size < w1.heap.size := by have := hgrow1.size; omega
        have hown1' : w1.ownsRow wr.heap.size 55 3 v1 ON ck := by simpa using hown1
        obtain ⟨v1a, v1c, rfl⟩ := iOwn_form hown1'
        have HO1 := hide hown1'
        have hs1 : wr.heap.size ≤ w1.heap.size := HBw5.out.size
        have k0 := (HBw5.out.cell (p := ⟨w.heap.size, 0, none⟩) ltwheapsize).trans f0
        have k1 := (HBw5.out.cell (p := ⟨w.heap.size, 1, none⟩) ltwheapsize).trans f1
        have k2 := (HBw5.out.cell (p := ⟨w.heap.size, 2, none⟩) ltwheapsize).trans f2
        clear hown1 hgrow1 hap1 hown1'
        refine hK.out _ _ ⟨k0, k1, k2⟩ (fun hHeld => ?_)
        clear hK K
        try simp only [Act.put, List.getElem_toArray, List.getElem_cons_zero, List.getElem_cons_succ, List.setIfInBounds_toArray, List.set_cons_zero, List.set_cons_succ]
        obtain ⟨w5, hw5e⟩ : ∃ w5, w5 = w1 := ⟨_, rfl⟩
        subst hw5e
        refine wpAnyH_ready (rs := [5]) (by kernel_rfl) (by simp) ?_
        refine AllReadyH.cons (o := _) rfl (fun K hK => ?_) AllReadyH.nil
        refine step_app3 rfl _ _ rfl wr.heap.size (.slice v1a ON v1c) ON ck rfl HO1.out _ 1 (tC ⟨pk, pn⟩ (.slice pad PN pc)) rfl (sc3_box (x := ⟨pk, pn⟩) rfl HB.out) ?_ ?_ ?_
        · omega
        · exact HBw5.out.size
        intro v2 w2 hown2 hgrow2 hap2
        have HL1 := hide (fun k hk => (HO1.out.lt k hk).1)
        have HB2 : Hid (Below wr.heap.size wr w2) := hide (HBw5.out.grown hgrow2 HBw5.out.size (fun k hk => HL1.out k hk))
        obtain ⟨v2a, v2c, rfl⟩ := iOwn_form hown2
        have HO2 : Hid (w2.ownsRow wr.heap.size 55 3 (.slice v2a (ON + 1) v2c) (ON + 1) (ck ++ tC ⟨pk, pn⟩ (.slice pad PN pc))) := hide (by simpa using hown2)
        have hs2 : wr.heap.size ≤ w2.heap.size := HB2.out.size
        have g0 := (HB2.out.cell (p := ⟨w.heap.size, 0, none⟩) ltwheapsize).trans f0
        have g1 := (HB2.out.cell (p := ⟨w.heap.size, 1, none⟩) ltwheapsize).trans f1
        have g2 := (HB2.out.cell (p := ⟨w.heap.size, 2, none⟩) ltwheapsize).trans f2
        clear hown2 hgrow2 hap2 HL1
        refine hK.out _ _ ⟨g0, g1, g2⟩ (fun hHeld => ?_)
        clear hK K
        try simp only [Act.put, List.getElem_toArray, List.getElem_cons_zero, List.getElem_cons_succ, List.setIfInBounds_toArray, List.set_cons_zero, List.set_cons_succ]
        refine wpAnyH_take (i := 6) (oi := _) (v := ?_) rfl (by kernel_rfl) (by kernel_rfl) (by kernel_rfl) (fun _ _ _ h => h) (Or.inl ⟨by rfl, ?_⟩) (by assumption) ?_
        rotate_left 1
        · (intro w hSw; (try dsimp only at hSw); (first | (go_simp; done) | (go_simp; with_reducible rfl)))
        try simp only [Act.put, List.getElem_toArray, List.getElem_cons_zero, List.getElem_cons_succ, List.setIfInBounds_toArray, List.set_cons_zero, List.set_cons_succ]
        refine wpAnyH_done (by kernel_rfl) ?_ _
        refine NoPanic.normal ?_
        have HKt : Hid (KidT w2 TT (toF (out ++ [p])) (.slice v2a (ON + 1) v2c)) := hide (by
          rw [toF_app]
          show KidT _ _ ((toF out).app (.cons p.1 p.2 .nil)) _
          rw [HPe.out]
          exact kid_copied (p := (⟨pk, pn⟩, p.2)) HO2.out (by rw [toF_len]; exact HON.out) (HSc.out w2 HB2.out).1 (HPk.out.below (HBw.out.trans (HB2.out.mono HBw.out.size))) (fun _ _ _ => trivial))
        have HBf : Hid (Below w.heap.size w w2) := hide (HBw.out.trans (HB2.out.mono HBw.out.size))
        clear HO2 HB2
        go_wp2_with fail
        go_ret
        exact ⟨_, rfl, by rw [HNo.out]; exact HKt.out, HBf.out⟩
    | cons q B =>
      have hlt : A.length < ON := by rw [HON.out, hAB]; simp
      have hlt' : (A.length : Int) < (ON : Int) := by omega
      have ha0 : (0 : Int) ≤ (A.length : Int) := by omega
      have hTq : KidT w TT ((toF A).app (.cons q.1 q.2 (toF B))) (.slice sad ON sc) := by rw [← toF_split hAB]; exact HT.out
      obtain ⟨g, cap, sq, he, hPg, hg, hTz, p0, p1, p2⟩ := KidT.kid hTq
      simp only [Value.slice.injEq] at he
      obtain ⟨rfl, -, rfl⟩ := he
      rw [toF_len] at p0 p1 p2
      have hqf := HF.out q (by rw [hAB]; simp)
      have HC := hide (fun (o : Obj) => l4Same_any q.2 q.1 p.1 p.2 sq (.slice pad PN pc) TT TT (wr.alloc o) hqf ((hTz.below HBw.out).below ((Below.refl _ _).alloc (Nat.le_refl _) o)) ((HPk.out.below HBw.out).below ((Below.refl _ _).alloc (Nat.le_refl _) o)))
      have hpe := HPe.out
      rw [hpe] at HC
      obtain ⟨qad, qc, hqe⟩ := hTz.form
      obtain ⟨QN, hQN⟩ : ∃ QN, QN = q.2.len := ⟨_, rfl⟩
      rw [← hQN] at hqe
      subst hqe
      have q0 := (HBw.out.cell (p := ⟨g, A.length * 3, none⟩) hg).trans p0
      have q1 := (HBw.out.cell (p := ⟨g, A.length * 3 + 1, none⟩) hg).trans p1
      have q2 := (HBw.out.cell (p := ⟨g, A.length * 3 + 2, none⟩) hg).trans p2
      have T0 : ∀ o : Obj, (wr.alloc o).cell? ⟨w.heap.size, 0, none⟩ = some (.int .i64 pk) := fun o => (cell_of_blk ((heap_alloc_old _ _ hsr).trans hT) 0).trans rfl
      have T1 : ∀ o : Obj, (wr.alloc o).cell? ⟨w.heap.size, 1, none⟩ = some (.int .i64 pn) := fun o => (cell_of_blk ((heap_alloc_old _ _ hsr).trans hT) 1).trans rfl
      have T2 : ∀ o : Obj, (wr.alloc o).cell? ⟨w.heap.size, 2, none⟩ = some (.slice pad PN pc) := fun o => (cell_of_blk ((heap_alloc_old _ _ hsr).trans hT) 2).trans rfl
      obtain ⟨SM, hSM⟩ : ∃ SM, SM = sameF (.cons q.1 q.2 .nil) (.cons p.1 p.2 .nil) := ⟨_, rfl⟩
      have HSM := hide hSM
      rw [hpe] at hSM
      rw [← hSM] at HC
      have HAB : Hid (out = (A ++ [q]) ++ B) := hide (by rw [hAB]; simp)
      obtain ⟨AN, hAN⟩ : ∃ AN, AN = A.length := ⟨_, rfl⟩
      rw [← hAN] at hlt hlt' ha0 q0 q1 q2 ⊢
      have HAN := hide hAN
      clear hAB hTq hTz hPg p0 p1 p2 hqf hpe hQN hSM hAN
      go_wp2_with fail
      refine Calls.mono (HC.out _) ?_
      rintro e w2 ⟨rfl, hb2⟩
      have hb2' : Below wr.heap.size wr w2 := ((Below.refl _ wr).alloc (Nat.le_refl _) _).trans (hb2.mono (by simp))
      clear HC T0 T1 T2 q0 q1 q2 hb2
      cases SM with
      | true =>
        have hre : R = out := by
          rw [HA.out, if_pos]
          rw [HAB.out, List.any_append, List.any_append]
          simp [← HSM.out]
        have HRe := hide hre
        have HBe : Hid (Below w.heap.size w w2) := hide (HBw.out.trans (hb2'.mono HBw.out.size))
        clear hre
        go_wp2_with fail
        go_ret
        exact ⟨_, rfl, by rw [HRe.out]; exact HT.out.below HBe.out, HBe.out⟩
      | false =>
        go_wp2_with fail
        refine ⟨⟨A ++ [q], B, HAB.out, by rw [List.length_append, List.length_singleton, ← HAN.out]; go_num, ?_, HBr.out.trans (hb2'.mono HBr.out.size)⟩, by simp [intOf]; omega⟩
        rw [List.any_append, HNoA.out]
        simp [← HSM.out]
end Go.Proofs.Ytjmgnljjeogdlaa.W

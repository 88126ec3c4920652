/-
  Some texts of this proof in one: TeLs, TeLx.
-/
import Derived.Test.YtjalakdpmglamaaTeLm
import Derived.Test.YtjalakdpmglamaaJd
import Derived.Test.YtjalakdpmglamaaJf
import Derived.Deep.RegionHeld3
import Derived.Test.YtjalakdpmglamaaJs
import Derived.Test.YtjalakdpmglamaaJza
import Derived.Maps.AppendAt
import Derived.Laws.OwnMore
/-
  Whether two of the specification's trees are the same: a contract of l4Same. Conditions: at most 1048576 cells.
-/
namespace Go.Proofs.Ytjalakdpmglamaa.W
open Go.ChangeShapes Go.WideShapes Go.ChangeAt Go.RowKit
set_option linter.unusedVariables false

theorem sameF_one (x y : Cc) (k m : F) : sameF (.cons x k .nil) (.cons y m .nil) = (decide (x.k = y.k) && (decide (x.n = y.n) && sameF k m)) := by
  simp only [sameF, Bool.and_true]
theorem sameF_len : ∀ {a b : F}, sameF a b = true → a.len = b.len := fun h => by rw [(sameF_iff _ _).1 h]
def SMGoal (k : F) : Prop := ∀ (x y : Cc) (m : F) (s t : Value) (P Q : Nat → Prop) (w : World), k.flat.length ≤ 1048576 → KidT w P k s → KidT w Q m t →
    Calls Try.prog 11 #[.agg #[.int .i64 x.k, .int .i64 x.n, s], .agg #[.int .i64 y.k, .int .i64 y.n, t]] w fun e w' => e = .returned (.bool (sameF (.cons x k .nil) (.cons y m .nil))) ∧ Below w.heap.size w w'

set_option maxRecDepth 20000 in
set_option maxHeartbeats 4000000 in
theorem l4Same_any : ∀ k, SMGoal k := by
  apply F.rec_kids
  intro k ih x y m s t P Q w hfl hT hU
  have IH := hide ih
  have HT := hide hT
  have HU := hide hU
  obtain ⟨sad, sc, rfl⟩ := hT.form
  obtain ⟨tad, tc, rfl⟩ := hU.form
  have hkl := F.len_flat k
  obtain ⟨KL, hKL⟩ : ∃ KL, KL = k.len := ⟨_, rfl⟩
  obtain ⟨ML, hML⟩ : ∃ ML, ML = m.len := ⟨_, rfl⟩
  have HSm := hide (sameF_one x y k m)
  rw [← hKL] at HT hkl ⊢
  rw [← hML] at HU ⊢
  have HKL := hide hKL
  have HML := hide hML
  obtain ⟨SM, hSM⟩ : ∃ SM, SM = sameF (.cons x k .nil) (.cons y m .nil) := ⟨_, rfl⟩
  rw [← hSM] at HSm ⊢
  have hB0 : Below w.heap.size w ((w.alloc (.cells #[.int .i64 x.k, .int .i64 x.n, .slice sad KL sc] 32)).alloc (.cells #[.int .i64 y.k, .int .i64 y.n, .slice tad ML tc] 32)) := ((Below.refl _ _).alloc (Nat.le_refl _) _).alloc (by simp) _
  clear ih hT hU hKL hML hSM
  by_cases h1 : x.k = y.k
  · by_cases h2 : x.n = y.n
    · by_cases h3 : KL = ML
      · subst h3
        have HSm2 : Hid (SM = sameF k m) := hide (by rw [HSm.out, decide_eq_true h1, decide_eq_true h2]; rfl)
        rw [h1, h2] at hB0 ⊢
        clear HSm h1 h2
        go_enter Try.func11, Try.ntmps11
        go_wp2_with fail
        obtain ⟨w0, hw0⟩ : ∃ w0, w0 = (w.alloc (.cells #[.int .i64 y.k, .int .i64 y.n, .slice sad KL sc] 32)).alloc (.cells #[.int .i64 y.k, .int .i64 y.n, .slice tad KL tc] 32) := ⟨_, rfl⟩
        have hsz0 : w0.heap.size = w.heap.size + 1 + 1 := by rw [hw0]; simp
        have hbS : w0.heap[w.heap.size]? = some (.cells #[.int .i64 y.k, .int .i64 y.n, .slice sad KL sc] 32) := by rw [hw0, heap_alloc_old _ _ (by simp)]; exact heap_alloc_new _ _
        have hbT : w0.heap[w.heap.size + 1]? = some (.cells #[.int .i64 y.k, .int .i64 y.n, .slice tad KL tc] 32) := by
          rw [hw0]
          have := heap_alloc_new (w.alloc (.cells #[.int .i64 y.k, .int .i64 y.n, .slice sad KL sc] 32)) (.cells #[.int .i64 y.k, .int .i64 y.n, .slice tad KL tc] 32)
          simpa using this
        rw [← hw0] at hB0 ⊢
        have HB0 := hide hB0
        have HBS := hide hbS
        have HBT := hide hbT
        have HSz := hide hsz0
        clear hw0 hbS hbT hsz0 hB0
        go_loopw [30] (fun i w' => ∃ a b c d : F, k = a.app b ∧ m = c.app d ∧ a.len = c.len ∧ sameF a c = true ∧ i = .int .i64 (a.len : Int) ∧ Below w0.heap.size w0 w') (fun i _ => KL - (intOf i).toNat)
        case atStart => exact ⟨.nil, k, .nil, m, rfl, rfl, rfl, rfl, rfl, Below.refl _ _⟩
        case round =>
          obtain ⟨a, b, c, d, hk, hm, hac, hsm, rfl, hBr⟩ := hrel
          have HBr := hide hBr
          have HBw : Hid (Below w.heap.size w wr) := hide (HB0.out.trans (hBr.mono HB0.out.size))
          cases b with
          | nil =>
            cases d with
            | cons _ _ _ =>
              exfalso
              have e1 := HKL.out
              have e2 := HML.out
              rw [hk, F.app_len] at e1
              rw [hm, F.app_len] at e2
              simp only [F.len] at e1 e2
              omega
            | nil =>
              rw [F.app_nil] at hk hm
              subst hk hm
              have hSM : SM = true := by rw [HSm2.out]; exact hsm
              subst hSM
              have hKL := HKL.out
              rw [← hKL]
              clear hKL hBr hsm hac
              go_wp2_with fail
              go_ret
              exact ⟨rfl, HBw.out⟩
          | cons z kz b =>
            cases d with
            | nil =>
              exfalso
              have e1 := HKL.out
              have e2 := HML.out
              rw [hk, F.app_len] at e1
              rw [hm, F.app_len] at e2
              simp only [F.len] at e1 e2
              omega
            | cons v kv d =>
              have hkl2 : KL = a.len + (b.len + 1) := by rw [HKL.out, hk, F.app_len]; rfl
              have hlt' : (a.len : Int) < (KL : Int) := by omega
              have hd0 : (0 : Int) ≤ (a.len : Int) := by omega
              have hfk : k.flat.length = a.flat.length + (1 + kz.flat.length + b.flat.length) := by rw [hk, F.app_flat]; simp [F.flat]; omega
              have hI := IH.out
              rw [hk] at hI
              obtain ⟨g, cap, sz', he, hPg, hg, hTz, p0, p1, p2⟩ := KidT.kid (a := a) (k := kz) (r := b) (x := z) (s := .slice sad KL sc) (by rw [← hk]; exact HT.out)
              simp only [Value.slice.injEq] at he
              obtain ⟨rfl, -, rfl⟩ := he
              obtain ⟨g2, cap2, sv', he2, hPg2, hg2, hTv, r0, r1, r2⟩ := KidT.kid (a := c) (k := kv) (r := d) (x := v) (s := .slice tad KL tc) (by rw [← hm]; exact HU.out)
              simp only [Value.slice.injEq] at he2
              obtain ⟨rfl, -, rfl⟩ := he2
              rw [← hac] at r0 r1 r2
              have HC := hide (fun (w' : World) (hw' : Below w.heap.size w w') => F.all_at hI z v kv sz' sv' P Q w' (by omega) (hTz.below hw') (hTv.below hw'))
              obtain ⟨zad, zc, rfl⟩ := hTz.form
              obtain ⟨vad, vc, rfl⟩ := hTv.form
              have HSn := hide (hk.trans (F.app_snoc a kz b z))
              have HSn2 := hide (hm.trans (F.app_snoc c kv d v))
              have HDl : Hid ((a.app (.cons z kz .nil)).len = a.len + 1) := hide (by rw [F.app_len]; rfl)
              have HDl2 : Hid ((c.app (.cons v kv .nil)).len = a.len + 1) := hide (by rw [F.app_len, hac]; rfl)
              obtain ⟨CM, hCM⟩ : ∃ CM, CM = sameF (.cons z kz .nil) (.cons v kv .nil) := ⟨_, rfl⟩
              have HAp : Hid (sameF (a.app (.cons z kz .nil)) (c.app (.cons v kv .nil)) = CM) := hide (by rw [sameF_app _ _ _ _ hac, hsm, hCM]; rfl)
              have HNo : Hid (CM = false → SM = false) := hide (fun h => by
                rw [HSm2.out, HSn.out, HSn2.out, sameF_app _ _ _ _ (HDl.out.trans HDl2.out.symm), HAp.out, h]; rfl)
              rw [← hCM] at HC
              have hsz0 := HSz.out
              have hzr := HBr.out.size
              have hgw : g < wr.heap.size := by have := HBw.out.size; omega
              have hgw2 : g2 < wr.heap.size := by have := HBw.out.size; omega
              have hl0 : w.heap.size < wr.heap.size := by omega
              have hl1 : w.heap.size + 1 < wr.heap.size := by omega
              have hS := (HBr.out.block w.heap.size (by omega)).trans HBS.out
              have hTt := (HBr.out.block (w.heap.size + 1) (by omega)).trans HBT.out
              obtain ⟨al, hal⟩ : ∃ al, al = a.len := ⟨_, rfl⟩
              obtain ⟨zn, hzn⟩ : ∃ zn, zn = kz.len := ⟨_, rfl⟩
              obtain ⟨vn, hvn⟩ : ∃ vn, vn = kv.len := ⟨_, rfl⟩
              rw [← hal] at hlt' hd0 p0 p1 p2 r0 r1 r2 HDl HDl2 hkl2 ⊢
              rw [← hzn] at HC p2
              rw [← hvn] at HC r2
              have HAll : Hid (∀ w', Below wr.heap.size wr w' → w'.cell? ⟨w.heap.size, 2, none⟩ = some (.slice (some ⟨g, 0, none⟩) KL sc) ∧ w'.cell? ⟨w.heap.size + 1, 2, none⟩ = some (.slice (some ⟨g2, 0, none⟩) KL tc) ∧ w'.cell? ⟨g, al * 3, none⟩ = some (.int .i64 z.k) ∧ w'.cell? ⟨g, al * 3 + 1, none⟩ = some (.int .i64 z.n) ∧ w'.cell? ⟨g, al * 3 + 2, none⟩ = some (.slice zad zn zc) ∧ w'.cell? ⟨g2, al * 3, none⟩ = some (.int .i64 v.k) ∧ w'.cell? ⟨g2, al * 3 + 1, none⟩ = some (.int .i64 v.n) ∧ w'.cell? ⟨g2, al * 3 + 2, none⟩ = some (.slice vad vn vc)) := hide (fun w' hb => ⟨(hb.cell (p := ⟨w.heap.size, 2, none⟩) hl0).trans ((cell_of_blk hS 2).trans rfl), (hb.cell (p := ⟨w.heap.size + 1, 2, none⟩) hl1).trans ((cell_of_blk hTt 2).trans rfl),
                (hb.cell (p := ⟨g, al * 3, none⟩) hgw).trans ((HBw.out.cell (p := ⟨g, al * 3, none⟩) hg).trans p0), (hb.cell (p := ⟨g, al * 3 + 1, none⟩) hgw).trans ((HBw.out.cell (p := ⟨g, al * 3 + 1, none⟩) hg).trans p1), (hb.cell (p := ⟨g, al * 3 + 2, none⟩) hgw).trans ((HBw.out.cell (p := ⟨g, al * 3 + 2, none⟩) hg).trans p2),
                (hb.cell (p := ⟨g2, al * 3, none⟩) hgw2).trans ((HBw.out.cell (p := ⟨g2, al * 3, none⟩) hg2).trans r0), (hb.cell (p := ⟨g2, al * 3 + 1, none⟩) hgw2).trans ((HBw.out.cell (p := ⟨g2, al * 3 + 1, none⟩) hg2).trans r1), (hb.cell (p := ⟨g2, al * 3 + 2, none⟩) hgw2).trans ((HBw.out.cell (p := ⟨g2, al * 3 + 2, none⟩) hg2).trans r2)⟩)
              have HBd : Hid (Below wr.heap.size wr wr.drew) := hide ⟨rfl, rfl, rfl, Nat.le_refl _, fun _ _ => rfl⟩
              have HC2 : Hid _ := hide (HC.out wr.drew (HBw.out.trans (HBd.out.mono HBw.out.size)))
              obtain ⟨f0, f1, f2, f3, f4, f5, f6, f7⟩ := HAll.out wr.drew HBd.out
              have HKl2 := hide hkl2
              have HSM := hide hsm
              clear p0 p1 p2 r0 r1 r2 hTz hTv hI hk hm hfk hal hzn hvn hCM hS hTt hsz0 hzr hkl2 hac hsm hBr HC
              go_wp2_with fail
              go_region_held3 (fun w' => w'.cell? ⟨w.heap.size, 2, none⟩ = some (.slice (some ⟨g, 0, none⟩) KL sc) ∧ w'.cell? ⟨w.heap.size + 1, 2, none⟩ = some (.slice (some ⟨g2, 0, none⟩) KL tc) ∧ w'.cell? ⟨g, al * 3, none⟩ = some (.int .i64 z.k) ∧ w'.cell? ⟨g, al * 3 + 1, none⟩ = some (.int .i64 z.n) ∧ w'.cell? ⟨g, al * 3 + 2, none⟩ = some (.slice zad zn zc) ∧ w'.cell? ⟨g2, al * 3, none⟩ = some (.int .i64 v.k) ∧ w'.cell? ⟨g2, al * 3 + 1, none⟩ = some (.int .i64 v.n) ∧ w'.cell? ⟨g2, al * 3 + 2, none⟩ = some (.slice vad vn vc)) (first | (with_reducible exact HAll.out _ HBd.out) | (with_reducible exact HAll.out _ HX1.out))
                (first
                  | ((with_reducible refine Calls.mono HC2.out ?_); rintro e W1 ⟨rfl, hx⟩; have HX1 : Hid (Below wr.heap.size wr W1) := hide (HBd.out.trans (hx.mono HBd.out.size)); clear hx))
              clear f0 f1 f2 f3 f4 f5 f6 f7
              cases CM with
              | false =>
                have hSM := HNo.out rfl
                subst hSM
                go_wp2_with fail
                go_ret
                exact ⟨rfl, HBw.out.trans (HX1.out.mono HBw.out.size)⟩
              | true =>
                go_wp2_with fail
                have hkl2 := HKl2.out
                exact ⟨⟨a.app (.cons z kz .nil), b, c.app (.cons v kv .nil), d, HSn.out, HSn2.out, HDl.out.trans HDl2.out.symm, HAp.out, by rw [HDl.out]; go_num, HBr.out.trans (HX1.out.mono HBr.out.size)⟩, by simp [intOf]; omega⟩
      · have hSM : SM = false := by
          rw [HSm.out]
          cases hs : sameF k m with
          | false => simp
          | true => exact absurd (by rw [HKL.out, HML.out]; exact sameF_len hs) h3
        subst hSM
        have h3' : ¬ (KL : Int) = (ML : Int) := by omega
        rw [h1, h2] at hB0 ⊢
        clear HSm h1 h2
        go_enter Try.func11, Try.ntmps11
        go_wp2_with fail
        go_ret
        exact ⟨rfl, hB0⟩
    · have hSM : SM = false := by rw [HSm.out, decide_eq_false h2]; simp
      subst hSM
      rw [h1] at hB0 ⊢
      clear HSm h1
      go_enter Try.func11, Try.ntmps11
      go_wp2_with fail
      go_ret
      exact ⟨rfl, hB0⟩
  · have hSM : SM = false := by rw [HSm.out, decide_eq_false h1]; rfl
    subst hSM
    clear HSm
    go_enter Try.func11, Try.ntmps11
    go_wp2_with fail
    go_ret
    exact ⟨rfl, hB0⟩
end Go.Proofs.Ytjalakdpmglamaa.W

/-
  Rows of the specification's trees that are copied and appended to: laws. No program here but types.
-/
namespace Go.Proofs.Ytjalakdpmglamaa.W
open Go.ChangeShapes Go.WideShapes Go.ChangeAt Go.RowKit
set_option linter.unusedVariables false
set_option linter.unusedSimpArgs false

/-- What an append of trees is handed. -/
def Sc3 (w : World) (v : Value) (m : Nat) (news : List Value) : Prop := news.length = m * 3 ∧ (∀ u ∈ news, u.oneCell' = true) ∧ ((v = .slice none 0 0 ∧ m = 0) ∨ ∃ ad c, v = .slice (some ad) m c ∧ ∀ j u, news[j]? = some u → w.cell? (ad.add j) = some u)
theorem KidT.sc3 {w : World} {P : Nat → Prop} {a : F} {s : Value} (h : KidT w P a s) : ∃ ck, ∀ w', Below w.heap.size w w' → KidsAt w' P a ck ∧ Sc3 w' s a.len ck := by
  obtain ⟨ck, h1, h2⟩ := h
  refine ⟨ck, fun w' hb => ?_⟩
  have g1 : KidsAt w' P a ck := h1.keep hb.size (fun k hp hk => ⟨hb.block k hk, hp⟩)
  refine ⟨g1, h1.len, h1.one, ?_⟩
  rcases h2 with ⟨h2, h3⟩ | ⟨h2, g, cap, h3, h4, h5, h6⟩
  · exact .inl ⟨h3, h2⟩
  · exact .inr ⟨_, _, h3, fun j u hj => by rw [iAdd, Nat.zero_add]; exact (hb.cell (p := ⟨g, j, none⟩) h5).trans (h6 j u hj)⟩
theorem sc3_box {w : World} {g : Nat} {x : Cc} {s : Value} (hs : s.oneCell' = true) (h : w.heap[g]? = some (.cells #[.int .i64 x.k, .int .i64 x.n, s] 32 (0, 0))) : Sc3 w (.slice (some ⟨g, 0, none⟩) 1 1) 1 (tC x s) := ⟨rfl, tC_one x s hs, .inr ⟨_, _, rfl, tC_cells h⟩⟩
theorem run_app3 (w : World) (ty : TypeId) (base : Nat) (v : Value) (n : Nat) (xs : List Value) (hown : w.ownsRow base 32 3 v n xs) (v2 : Value) (m : Nat) (news : List Value) (hs : Sc3 w v2 m news) (hn : n + m ≤ 100000) (hbase : base ≤ w.heap.size) :
    ∃ v' w', (Builtin.append_ #[30, 30] ty #[v, v2]).run Try.prog w = .ok v' w' ∧ w'.ownsRow base 32 3 v' (n + m) (xs ++ news) ∧ w.grownBy w' v.ownBlock ∧ ∀ k, v'.ownBlock = some k → v.ownBlock = some k ∨ k = w.heap.size := by
  obtain ⟨i0, hi0, hz0, hz1, hz2⟩ := infoPartsT infoT
  obtain ⟨hl, h1, ⟨rfl, rfl⟩ | ⟨ad, c, rfl, hnews⟩⟩ := hs
  · have h0 : news = [] := List.length_eq_zero_iff.1 (by rw [hl])
    subst h0
    refine ⟨v, w, run_append_owned_none w base 30 ty 32 i0 3 Try.underlying30 hi0 v n xs hown, by simpa using hown, ⟨rfl, rfl, rfl, Nat.le_refl _, fun _ _ _ => rfl⟩, fun k hk => .inl hk⟩
  · obtain ⟨v', w', hr, h2, h3, -, h5⟩ := run_append_own_at (P := Try.prog) w base 30 ty 32 i0 _ 3 40 Try.underlying30 hi0 hz0 hz1 hz2 rfl (by decide) v n xs hown ad m c news hl hnews h1 (by unfold maxLen; omega) (by omega) hbase
    refine ⟨v', w', hr, h2, h3, fun k hk => ?_⟩
    rcases h5 with h5 | h5
    · exact .inl (by rw [← h5]; exact hk)
    · right
      rw [h5] at hk
      simpa using hk.symm
theorem wp_app3 {w : World} {o : Oper} {a : Act} {K : Act → World → Prop} {Q : Exit → Act → World → Prop} (s x : Operand) (ho : o.op = .call { callee := .builtin .append, args := #[s, x], argTypes := #[30, 30] })
    (base : Nat) (v : Value) (n : Nat) (xs : List Value) (hv : a.eval s = v) (hown : w.ownsRow base 32 3 v n xs) (v2 : Value) (m : Nat) (news : List Value) (hx : a.eval x = v2) (hs : Sc3 w v2 m news) (hn : n + m ≤ 100000) (hbase : base ≤ w.heap.size)
    (h : ∀ v' w', w'.ownsRow base 32 3 v' (n + m) (xs ++ news) → w.grownBy w' v.ownBlock → (∀ k, v'.ownBlock = some k → v.ownBlock = some k ∨ k = w.heap.size) → K (a.put o.dst v') w') : o.wp Try.prog a w K Q := by
  obtain ⟨v', w', hr, h2, h3, h4⟩ := run_app3 w o.type base v n xs hown v2 m news hs hn hbase
  unfold Oper.wp execOp
  simp only [ho, resolve, invoke, builtin, Sem.run_bind, Sem.run_pure, Result.andThen_ok, List.map_toArray, List.map_cons, List.map_nil, hv, hx, hr]
  exact h v' w' h2 h3 h4
theorem step_app3 {w : World} {ops : Array Oper} {o : Oper} {a : Act} {K : Act → World → Prop} {Q : Exit → Act → World → Prop} {E : Prop} (hg : o.guard = none) (s x : Operand) (ho : o.op = .call { callee := .builtin .append, args := #[s, x], argTypes := #[30, 30] })
    (base : Nat) (v : Value) (n : Nat) (xs : List Value) (hv : a.eval s = v) (hown : w.ownsRow base 32 3 v n xs) (v2 : Value) (m : Nat) (news : List Value) (hx : a.eval x = v2) (hs : Sc3 w v2 m news) (hn : n + m ≤ 100000) (hbase : base ≤ w.heap.size)
    (h : ∀ v' w', w'.ownsRow base 32 3 v' (n + m) (xs ++ news) → w.grownBy w' v.ownBlock → (∀ k, v'.ownBlock = some k → v.ownBlock = some k ∨ k = w.heap.size) → K (a.put o.dst v') w') : if Region.wanted o (yielded ops a.tmps) = true then Oper.wp Try.prog o a w K Q else E := by
  have hw : Region.wanted o (yielded ops a.tmps) = true := by simp [Region.wanted, hg]
  rw [if_pos hw]
  exact wp_app3 s x ho base v n xs hv hown v2 m news hx hs hn hbase h
/-- A row of trees copied, with one more. -/
theorem kid_copied {w : World} {B n : Nat} {V st : Value} {ck : List Value} {a : F} {p : Cc × F} {R : Nat → Prop} (ho : w.ownsRow B 32 3 V (n + 1) (ck ++ tC p.1 st)) (hn : n = a.len) (hk : KidsAt w R a ck) (hp : KidT w R p.2 st) (hR : ∀ k, V.ownBlock = some k → B ≤ k → R k) : KidT w R (a.app (.cons p.1 p.2 .nil)) V := by
  refine ⟨ck ++ tC p.1 st, KidsAt.app hk ⟨st, [], (List.append_nil _).symm, hp, rfl⟩, .inr ⟨by rw [F.app_len]; simp [F.len], ?_⟩⟩
  obtain ⟨g, cap, e1, e2, e3, e4⟩ := tOwn_lies ho (by omega)
  exact ⟨g, cap, by rw [F.app_len, ← hn]; exact e1, hR g (by rw [e1]; rfl) e2, e3, e4⟩
def TT : Nat → Prop := fun _ => True
theorem KidT.tt {w : World} {P : Nat → Prop} {a : F} {s : Value} (h : KidT w P a s) : KidT w TT a s := h.weak (fun _ _ _ => trivial)
theorem KidT.lt {w : World} {P : Nat → Prop} {a : F} {s : Value} (h : KidT w P a s) : KidT w (fun g => g < w.heap.size) a s := h.weak (fun _ _ h => h)
/-- A term more, once, as trees tell it. -/
theorem ldA_F {out : List (Cc × F)} {p : Cc × F} (ho : ∀ q ∈ out, (F.cons q.1 q.2 .nil).ard) (hp : (F.cons p.1 p.2 .nil).ard) : ldA out p = if (out.any fun q => sameF (.cons q.1 q.2 .nil) (.cons p.1 p.2 .nil)) = true then out else out ++ [p] := by
  unfold ldA
  have : (out.any fun q => sameR (q.1 :: q.2.flat) (p.1 :: p.2.flat)) = (out.any fun q => sameF (.cons q.1 q.2 .nil) (.cons p.1 p.2 .nil)) := by
    rw [Bool.eq_iff_iff, List.any_eq_true, List.any_eq_true]
    have e : ∀ q ∈ out, sameR (q.1 :: q.2.flat) (p.1 :: p.2.flat) = sameF (.cons q.1 q.2 .nil) (.cons p.1 p.2 .nil) := fun q hq => by
      have := same_flat (ho q hq) hp rfl
      simpa [F.flat] using this
    exact ⟨fun ⟨q, h1, h2⟩ => ⟨q, h1, by rw [← e q h1]; exact h2⟩, fun ⟨q, h1, h2⟩ => ⟨q, h1, by rw [e q h1]; exact h2⟩⟩
  rw [this]
end Go.Proofs.Ytjalakdpmglamaa.W

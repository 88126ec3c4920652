/-
  Whether some value fits a row of patterns and none of others, by the specification: l8UsefulRow. Conditions: good rows. Written by wip/build/mk_mtj.py.
-/
import Derived.Test.YtfepljcblajfpabMtI
import Derived.Test.YtfepljcblajfpabMtD
import Derived.Test.YtfepljcblajfpabMsO
namespace Go.Proofs.Ytfepljcblajfpab.W
open Go.ChangeShapes Go.WideShapes Go.ChangeAt Go.RowKit
set_option linter.unusedVariables false
set_option linter.unusedSimpArgs false

/-- A pattern that any value fits, ahead of rows that name nothing first. -/
theorem useful_tl {D : List Int} (hd : goodD D = true) {x : Pt} {k r : F} {R : List F} (hw : WR D (.cons x k r) R) (hx : x.kd = 1) (hn : R.any nam1 = false) : (wn D (.cons x k r) R).isSome = (wn D (tlF (.cons x k r)) (R.map tlF)).isSome := by
  by_cases hR : R = []
  · subst hR; rw [List.map_nil, wn_nil, wn_nil]; rfl
  · rw [wn_tl hd hw hR hx hn, Option.isSome_map]
def gU (D : List Int) (a : F) (R : List F) (c : Nat) : Option (List Pt) :=
  match opn D c a with
  | none => none
  | some a' => (wn D a' (R.filterMap (opn D c))).map ((⟨2, (c : Int)⟩ : Pt) :: ·)
theorem fstS_has {g : Nat → Option (List Pt)} {n c : Nat} (hc : c < n) (h : (g c).isSome = true) : ∀ m, n ≤ c + m → m ≤ n → (fstS g n m).isSome = true
  | 0, h1, _ => by omega
  | m + 1, h1, h2 => by
    rw [fstS]
    cases hg : g (n - (m + 1)) with
    | some l => rfl
    | none =>
      by_cases e : n - (m + 1) = c
      · rw [e] at hg; rw [hg] at h; cases h
      · exact fstS_has hc h m (by omega) (by omega)
theorem useful_con {D : List Int} (hd : goodD D = true) {x : Pt} {k r : F} {R : List F} (hw : WR D (.cons x k r) R) (hc : ¬ (x.kd = 1 ∧ R.any nam1 = false)) : (wn D (.cons x k r) R).isSome = (fstS (gU D (.cons x k r) R) D.length (D.length - 0)).isSome := by
  rw [Nat.sub_zero]
  by_cases hR : R = []
  · subst hR
    rw [wn_nil]
    rcases good_kd hw.ok.1 with ⟨h1, h2⟩ | ⟨h1, h2, h3⟩
    · exact absurd ⟨h1, rfl⟩ hc
    · have hx : x.con = ((x.con.toNat : Nat) : Int) := by omega
      symm
      refine fstS_has (c := x.con.toNat) (by omega) ?_ _ (by omega) (Nat.le_refl _)
      unfold gU
      rw [opn_of h1 hx]
      rfl
  · rw [wn_con hd hw hR hc]
    rfl
theorem RV.one {w : World} {g : Nat} {a : F} {va : Value} {t : TypeId} (h : w.heap[g]? = some (.cells #[va] t (0, 0))) (hG : GT w (fun _ => True) a va) (hC : Cap va) : RV w (.slice (some ⟨g, 0, none⟩) 1 1) [a] := by
  refine ⟨[va], .inr ⟨g, 0, 1, rfl, .inr ⟨trivial, (Array.getElem?_eq_some_iff.1 h).1⟩, fun j v hj => ?_⟩, fun ad m c e => ?_, rfl, fun i hi => ?_⟩
  · rw [Nat.zero_add, cell_of_blk h, ← hj]; simp
  · simp only [Value.slice.injEq] at e; omega
  · obtain rfl : i = 0 := by simp at hi; omega
    exact ⟨va, rfl, hG, hC⟩

set_option maxRecDepth 20000 in
set_option maxHeartbeats 4000000 in
theorem useful_nil (D : List Int) (hd : goodD D = true) (da : Option Addr) (dc : Nat) (a : F) (R : List F) (va vR : Value) (w : World) (hD : DRow w (.agg #[.slice da D.length dc]) D) (hV : RV w vR R) (hG : GT w (fun _ => True) a va) (hC : Cap va) (hwr : WR D a R) (ha : a = .nil) :
    Calls Try.prog 35 #[.agg #[.slice da D.length dc], vR, .agg #[va]] w fun e w' => e = .returned (.bool (wn D a R).isSome) ∧ Below w.heap.size w w' := by
  subst ha
  obtain ⟨ra, rc, rfl, -⟩ := hV.form
  obtain ⟨aa, ac, rfl⟩ := hG.form
  have HB0 := hide (show Below w.heap.size w ((w.alloc (.cells #[.slice da D.length dc] 31)).alloc (.cells #[.slice aa 0 ac] 70)) from ((Below.refl _ _).alloc (Nat.le_refl _) _).alloc (by simp) _)
  have HW : Hid ((wn D .nil R).isSome = decide (R.length = 0)) := hide (by
    by_cases hR : R = []
    · subst hR; rfl
    · rw [wn_none D hR]; simp [hR])
  have h8 := hwr.few
  simp only [F.len]
  obtain ⟨RN, hRN⟩ : ∃ RN, RN = R.length := ⟨_, rfl⟩
  rw [← hRN] at HW h8 ⊢
  clear hV hG hD hC hwr hd hRN
  by_cases h0 : RN = 0
  · have HR : Hid (true = (wn D .nil R).isSome) := hide (by rw [HW.out]; simp [h0])
    have hb : ((RN : Int) == 0) = true := by simp [h0]
    clear HW h0
    go_enter Try.func35, Try.ntmps35
    go_wp2_with fail
    go_ret
    exact ⟨ret_bool8 HR.out, HB0.out⟩
  · have HR : Hid (false = (wn D .nil R).isSome) := hide (by rw [HW.out]; simp [h0])
    have hb : ((RN : Int) == 0) = false := beq_false_of_ne (by omega)
    clear HW
    go_enter Try.func35, Try.ntmps35
    go_wp2_with fail
    go_ret
    exact ⟨ret_bool8 HR.out, HB0.out⟩

set_option maxRecDepth 20000 in
set_option maxHeartbeats 8000000 in
theorem useful_behind (f : Nat) (D : List Int) (hd : goodD D = true) (da : Option Addr) (dc : Nat) (a : F) (R : List F) (va vR : Value) (w : World) (hD : DRow w (.agg #[.slice da D.length dc]) D) (hV : RV w vR R) (hG : GT w (fun _ => True) a va) (hC : Cap va) (hwr : WR D a R) (ih : (∀ (a : F) (R : List F) (va vR : Value) (w : World), mea a R < f → WR D a R → DRow w (.agg #[.slice da D.length dc]) D → RV w vR R → GT w (fun _ => True) a va → Cap va → Calls Try.prog 35 #[.agg #[.slice da D.length dc], vR, .agg #[va]] w fun e w' => e = .returned (.bool (wn D a R).isSome) ∧ Below w.heap.size w w')) (hf : mea a R < f + 1) {x : Pt} {k r : F} (ha : a = .cons x k r) (hx : x.kd = 1) (hn : R.any nam1 = false) :
    Calls Try.prog 35 #[.agg #[.slice da D.length dc], vR, .agg #[va]] w fun e w' => e = .returned (.bool (wn D a R).isSome) ∧ Below w.heap.size w w' := by
  subst ha
  have hres := useful_tl hd hwr hx hn
  obtain ⟨wr1, me1⟩ := hwr.tl (by simp [F.len]) (by simp [nam1]; omega) hn
  have hkn : k = .nil := F.len_0 (by rw [hwr.ok.2.1, ar, if_pos hx])
  subst hkn
  have htl : tlF (.cons x .nil r) = r := rfl
  rw [htl] at hres wr1 me1
  have hok : ∀ b ∈ R, b.ok D ∧ 1 ≤ b.len := fun b hb => by have := hwr.oks b hb; simp only [F.len] at this; exact ⟨this.1, by omega⟩
  have h8 := hwr.few
  have hrl : r.len + 1 ≤ 1000 := by have h1 := hwr.big; have h2 := flat_len hwr.ok; simp only [F.len] at h2; omega
  obtain ⟨g, o2, cc, sx, rfl, hcc, -, hgl, gk, c0, c1, tl⟩ := hG.head hC
  obtain ⟨ra, rc, rfl, -⟩ := hV.form
  have hct : tcon x = -1 := by simp [tcon, hx]
  rw [hct] at c0
  obtain ⟨q, hq⟩ : ∃ q, q = if cc = 1 then o2 else o2 + 2 := ⟨_, rfl⟩
  have hGq := tl q (by rw [hq]; split <;> simp [*])
  have hCq : Cap (.slice (some ⟨g, q, none⟩) r.len (cc - 1)) := fun ad m c e => by simp only [Value.slice.injEq] at e; omega
  have HNa : Hid (∀ (w' : World), Below w.heap.size w w' → Calls Try.prog 50 #[.slice ra R.length rc] w' fun e w'' => e = .returned (.bool false) ∧ Below w'.heap.size w' w'') := hide (fun w' hb => by
    have := l8Named_any D R _ w' (hV.below hb) hok h8
    rw [hn] at this
    exact this)
  have HRs : Hid (∀ (w' : World), Below w.heap.size w w' → Calls Try.prog 51 #[.slice ra R.length rc] w' fun e w'' => ∃ v', e = .returned v' ∧ RV w'' v' (R.map tlF) ∧ Below w'.heap.size w' w'') := hide (fun w' hb => l8Rest_any D R _ w' (hV.below hb) hok h8 hn)
  have HRec : Hid (∀ (w' : World) (v' : Value), Below w.heap.size w w' → RV w' v' (R.map tlF) → Calls Try.prog 35 #[.agg #[.slice da D.length dc], v', .agg #[.slice (some ⟨g, q, none⟩) r.len (cc - 1)]] w' fun e w'' => e = .returned (.bool (wn D r (R.map tlF)).isSome) ∧ Below w'.heap.size w' w'') := hide (fun w' v' hb hv => ih r (R.map tlF) _ v' w' (by omega) wr1 (hD.below hb) hv (hGq.below hb) hCq)
  rw [← hres] at HRec
  have HB0 := hide (show Below w.heap.size w ((w.alloc (.cells #[.slice da D.length dc] 31)).alloc (.cells #[.slice (some ⟨g, o2, none⟩) (r.len + 1) cc] 70)) from ((Below.refl _ _).alloc (Nat.le_refl _) _).alloc (by simp) _)
  have HX0 := hide ((Bx.new w #[.slice da D.length dc] 31).alloc (.cells #[.slice (some ⟨g, o2, none⟩) (r.len + 1) cc] 70))
  have HY0 := hide (Bx.new (w.alloc (.cells #[.slice da D.length dc] 31)) #[.slice (some ⟨g, o2, none⟩) (r.len + 1) cc] 70)
  have hz1 : (w.alloc (.cells #[.slice da D.length dc] 31)).heap.size = w.heap.size + 1 := by simp
  rw [hz1] at HY0
  obtain ⟨B, hBe⟩ : ∃ B, B = (wn D (.cons x .nil r) R).isSome := ⟨_, rfl⟩
  rw [← hBe] at HRec ⊢
  obtain ⟨RL, hRL⟩ : ∃ RL, RL = r.len := ⟨_, rfl⟩
  rw [← hRL] at HRec HB0 HX0 HY0 hrl hcc ⊢
  obtain ⟨RN, hRN⟩ : ∃ RN, RN = R.length := ⟨_, rfl⟩
  rw [← hRN] at HNa HRs h8 ⊢
  have HQ := hide hq
  have hn0 : ¬ (RL : Int) + 1 = 0 := by omega
  have hnb : ((RL : Int) + 1 == 0) = false := beq_false_of_ne (by omega)
  have k1 : (1 : Int) ≤ (RL : Int) + 1 := by omega
  have k2 : (RL : Int) + 1 ≤ (cc : Int) := by omega
  have k3 : (1 : Int) ≤ (cc : Int) := by omega
  have d0 : ∀ o1 o2' : Obj, ((w.alloc o1).alloc o2').cell? ⟨g, o2, none⟩ = some (.int .i64 (-1)) := fun o1 o2' => by
    have h1 : (w.alloc o1).cell? ⟨g, o2, none⟩ = some (.int .i64 (-1)) := by rw [World.cell?_alloc_some _ _ _ (by rw [c0]; rfl)]; exact c0
    rw [World.cell?_alloc_some _ _ _ (by rw [h1]; rfl)]; exact h1
  clear hV hG hD hC hwr hd hRN hRL hBe hres wr1 me1 hok tl gk c0 c1 hGq hCq hq hct htl ih hf hn hz1 hx
  go_enter Try.func35, Try.ntmps35
  go_wp2_with fail
  refine Calls.mono (HNa.out _ HB0.out) ?_
  rintro e w3 ⟨rfl, hb3⟩
  have hB3 : Below w.heap.size w w3 := HB0.out.trans (hb3.mono HB0.out.size)
  have HX3 := hide (HX0.out.below hb3 HX0.out.lt)
  have HY3 := hide (HY0.out.below hb3 HY0.out.lt)
  have b0 : w3.cell? ⟨w.heap.size, 0, none⟩ = some (.slice da D.length dc) := HX3.out.c 0
  have b1 : w3.cell? ⟨w.heap.size + 1, 0, none⟩ = some (.slice (some ⟨g, o2, none⟩) (RL + 1) cc) := HY3.out.c 0
  have xl0 := HX3.out.lt
  have xl1 := HY3.out.lt
  clear hb3 HX0 HY0 HB0 HX3 HY3 HNa d0
  go_wp2_with fail
  refine wp_region_noPanic ?_
  refine wp_region_held_drew (S := fun w' => w'.cell? ⟨w.heap.size, 0, none⟩ = some (.slice da D.length dc) ∧ w'.cell? ⟨w.heap.size + 1, 0, none⟩ = some (.slice (some ⟨g, o2, none⟩) (RL + 1) cc)) (by kernel_rfl) ⟨b0, b1⟩ (fun hHeld => ?_)
  refine wpAnyH_take (i := 0) (oi := _) (v := ?_) rfl (by kernel_rfl) (by kernel_rfl) (by kernel_rfl) (fun _ _ _ h => h) (Or.inl ⟨by rfl, ?_⟩) (by assumption) ?_
  rotate_left 1
  · (intro w hSw; (try dsimp only at hSw); (first | (go_simp; done) | (go_simp; with_reducible rfl)))
  try simp only [Act.put, List.getElem_toArray, List.getElem_cons_zero, List.getElem_cons_succ, List.setIfInBounds_toArray, List.set_cons_zero, List.set_cons_succ]
  refine wpAnyH_take (i := 1) (oi := _) (v := ?_) rfl (by kernel_rfl) (by kernel_rfl) (by kernel_rfl) (fun _ _ _ h => h) (Or.inl ⟨by rfl, ?_⟩) (by assumption) ?_
  rotate_left 1
  · (intro w hSw; (try dsimp only at hSw); (first | (go_simp; done) | (go_simp; with_reducible rfl)))
  try simp only [Act.put, List.getElem_toArray, List.getElem_cons_zero, List.getElem_cons_succ, List.setIfInBounds_toArray, List.set_cons_zero, List.set_cons_succ]
  refine wpAnyH_take (i := 3) (oi := _) (v := ?_) rfl (by kernel_rfl) (by kernel_rfl) (by kernel_rfl) (fun _ _ _ h => h) (Or.inl ⟨by rfl, ?_⟩) (by assumption) ?_
  rotate_left 1
  · (intro w hSw; (try dsimp only at hSw); (first | (go_simp; done) | (go_simp; with_reducible rfl)))
  try simp only [Act.put, List.getElem_toArray, List.getElem_cons_zero, List.getElem_cons_succ, List.setIfInBounds_toArray, List.set_cons_zero, List.set_cons_succ]
  refine wpAnyH_take (i := 4) (oi := _) (v := ?_) rfl (by kernel_rfl) (by kernel_rfl) (by kernel_rfl) (fun _ _ _ h => h) (Or.inl ⟨by rfl, ?_⟩) (by assumption) ?_
  rotate_left 1
  · (intro w hSw; (try dsimp only at hSw); (first | (go_simp; done) | (go_simp; with_reducible rfl)))
  try simp only [Act.put, List.getElem_toArray, List.getElem_cons_zero, List.getElem_cons_succ, List.setIfInBounds_toArray, List.set_cons_zero, List.set_cons_succ]
  refine wpAnyH_take (i := 5) (oi := _) (v := .slice (some ⟨g, q, none⟩) RL (cc - 1)) rfl (by kernel_rfl) (by kernel_rfl) (by kernel_rfl) (fun _ _ _ h => h) (Or.inl ⟨by rfl, ?_⟩) (by assumption) ?_
  · (intro w hSw; (try dsimp only at hSw); (go_simp; by_cases hc1 : cc = 1 <;> simp [hc1, HQ.out]))
  try simp only [Act.put, List.getElem_toArray, List.getElem_cons_zero, List.getElem_cons_succ, List.setIfInBounds_toArray, List.set_cons_zero, List.set_cons_succ]
  refine wpAnyH_take (i := 6) (oi := _) (v := ?_) rfl (by kernel_rfl) (by kernel_rfl) (by kernel_rfl) (fun _ _ _ h => h) (Or.inl ⟨by rfl, ?_⟩) (by assumption) ?_
  rotate_left 1
  · (intro w hSw; (try dsimp only at hSw); (first | (go_simp; done) | (go_simp; with_reducible rfl)))
  try simp only [Act.put, List.getElem_toArray, List.getElem_cons_zero, List.getElem_cons_succ, List.setIfInBounds_toArray, List.set_cons_zero, List.set_cons_succ]
  refine wpAnyH_ready (rs := [2]) (by kernel_rfl) (by simp) ?_
  refine AllReadyH.cons (o := _) rfl (fun K hK => ?_) AllReadyH.nil
  go_simp
  (with_reducible refine Calls.mono (HRs.out w3.drew (belowDrew8 hB3)) ?_)
  rintro r wa ⟨vn, rfl, hrv, hba⟩
  have HRv := hide hrv
  have hBa : Below w.heap.size w wa := (belowDrew8 hB3).trans (hba.mono hB3.size)
  have fa0 := (hba.cell (p := ⟨w.heap.size, 0, none⟩) xl0).trans b0
  have fa1 := (hba.cell (p := ⟨w.heap.size + 1, 0, none⟩) xl1).trans b1
  have xa0 : w.heap.size < wa.heap.size := Nat.lt_of_lt_of_le xl0 hba.size
  have xa1 : w.heap.size + 1 < wa.heap.size := Nat.lt_of_lt_of_le xl1 hba.size
  clear hba
  obtain ⟨na, nc, rfl, -⟩ := hrv.form
  rw [List.length_map] at HRv
  clear hrv
  (try go_wp2_with fail)
  refine hK.out _ _ ⟨fa0, fa1⟩ (fun hHeld => ?_)
  clear hK K
  try simp only [Act.put, List.getElem_toArray, List.getElem_cons_zero, List.getElem_cons_succ, List.setIfInBounds_toArray, List.set_cons_zero, List.set_cons_succ]
  refine wpAnyH_ready (rs := [7]) (by kernel_rfl) (by simp) ?_
  refine AllReadyH.cons (o := _) rfl (fun K hK => ?_) AllReadyH.nil
  go_simp
  (with_reducible refine Calls.mono (HRec.out wa _ hBa HRv.out) ?_)
  rintro r wb ⟨rfl, hbb⟩
  have hBb : Below w.heap.size w wb := hBa.trans (hbb.mono hBa.size)
  have fb0 := (hbb.cell (p := ⟨w.heap.size, 0, none⟩) xa0).trans fa0
  have fb1 := (hbb.cell (p := ⟨w.heap.size + 1, 0, none⟩) xa1).trans fa1
  clear hbb
  (try go_wp2_with fail)
  refine hK.out _ _ ⟨fb0, fb1⟩ (fun hHeld => ?_)
  clear hK K
  try simp only [Act.put, List.getElem_toArray, List.getElem_cons_zero, List.getElem_cons_succ, List.setIfInBounds_toArray, List.set_cons_zero, List.set_cons_succ]
  refine wpAnyH_take (i := 8) (oi := _) (v := ?_) rfl (by kernel_rfl) (by kernel_rfl) (by kernel_rfl) (fun _ _ _ h => h) (Or.inl ⟨by rfl, ?_⟩) (by assumption) ?_
  rotate_left 1
  · (intro w hSw; (try dsimp only at hSw); (first | (go_simp; done) | (go_simp; with_reducible rfl)))
  try simp only [Act.put, List.getElem_toArray, List.getElem_cons_zero, List.getElem_cons_succ, List.setIfInBounds_toArray, List.set_cons_zero, List.set_cons_succ]
  refine wpAnyH_done (by kernel_rfl) ?_ _
  refine NoPanic.normal ?_
  clear b0 b1 fa0 fa1 fb0 fb1 HRec HRs HRv
  go_wp2_with fail
  go_ret
  exact ⟨rfl, hBb⟩

set_option maxRecDepth 20000 in
set_option maxHeartbeats 8000000 in
theorem useful_cons (f : Nat) (D : List Int) (hd : goodD D = true) (da : Option Addr) (dc : Nat) (a : F) (R : List F) (va vR : Value) (w : World) (hD : DRow w (.agg #[.slice da D.length dc]) D) (hV : RV w vR R) (hG : GT w (fun _ => True) a va) (hC : Cap va) (hwr : WR D a R) (ih : (∀ (a : F) (R : List F) (va vR : Value) (w : World), mea a R < f → WR D a R → DRow w (.agg #[.slice da D.length dc]) D → RV w vR R → GT w (fun _ => True) a va → Cap va → Calls Try.prog 35 #[.agg #[.slice da D.length dc], vR, .agg #[va]] w fun e w' => e = .returned (.bool (wn D a R).isSome) ∧ Below w.heap.size w w')) (hf : mea a R < f + 1) {x : Pt} {k r : F} (ha : a = .cons x k r) (hc : ¬ (x.kd = 1 ∧ R.any nam1 = false)) :
    Calls Try.prog 35 #[.agg #[.slice da D.length dc], vR, .agg #[va]] w fun e w' => e = .returned (.bool (wn D a R).isSome) ∧ Below w.heap.size w w' := by
  have hn1 : 1 ≤ a.len := by subst ha; simp [F.len]
  have hres : (wn D a R).isSome = (fstS (gU D a R) D.length (D.length - 0)).isSome := by subst ha; exact useful_con hd hwr hc
  have hnam : nam1 a = true ∨ R.any nam1 = true := by
    subst ha
    by_cases hx : x.kd = 2
    · exact .inl (by simp [nam1, hx])
    · have h1 : x.kd = 1 := by rcases good_kd hwr.ok.1 with g | g <;> omega
      right
      rw [← Bool.not_eq_false]
      exact fun h => hc ⟨h1, h⟩
  have hok : ∀ b ∈ R, b.ok D ∧ 1 ≤ b.len := fun b hb => by have := hwr.oks b hb; exact ⟨this.1, by omega⟩
  have h8 := hwr.few
  have hal : a.len ≤ 1000 := by have h1 := hwr.big; have h2 := flat_len hwr.ok; omega
  have hok2 : ∀ b ∈ R, b.ok D ∧ 1 ≤ b.len ∧ b.len ≤ 1000 := fun b hb => by have := hwr.oks b hb; exact ⟨this.1, by omega, by omega⟩
  have hD4 := (goodD_len hd).1
  obtain ⟨ra, rc, rfl, -⟩ := hV.form
  have HNa : Hid (∀ (w' : World), Below w.heap.size w w' → Calls Try.prog 50 #[.slice ra R.length rc] w' fun e w'' => e = .returned (.bool (R.any nam1)) ∧ Below w'.heap.size w' w'') := hide (fun w' hb => l8Named_any D R _ w' (hV.below hb) hok h8)
  have HOn : Hid (∀ (j g1 : Nat) (w' : World), j < D.length → Below w.heap.size w w' → Bx w' g1 #[va] 70 → Calls Try.prog 39 #[.agg #[.slice da D.length dc], .slice (some ⟨g1, 0, none⟩) 1 1, .int .i64 (j : Int)] w' fun e w'' => ∃ v', e = .returned v' ∧ RV w'' v' ([a].filterMap (opn D j)) ∧ Below w'.heap.size w' w'') := hide (fun j g1 w' hj hb hx => l8Narrow_any _ D _ [a] j w' (hD.below hb) hd hj (RV.one hx (hG.below hb) hC) (fun b hb => by simp only [List.mem_singleton] at hb; subst hb; exact ⟨hwr.ok, hn1, hal⟩) (by simp))
  have HNar : Hid (∀ (j : Nat) (w' : World), j < D.length → Below w.heap.size w w' → Calls Try.prog 39 #[.agg #[.slice da D.length dc], .slice ra R.length rc, .int .i64 (j : Int)] w' fun e w'' => ∃ v', e = .returned v' ∧ RV w'' v' (R.filterMap (opn D j)) ∧ Below w'.heap.size w' w'') := hide (fun j w' hj hb => l8Narrow_any _ D _ R j w' (hD.below hb) hd hj (hV.below hb) hok2 h8)
  have HRec : Hid (∀ (j : Nat) (a' : F) (va' : Value) (w' : World) (v' : Value), opn D j a = some a' → Below w.heap.size w w' → RV w' v' (R.filterMap (opn D j)) → GT w' (fun _ => True) a' va' → Cap va' → Calls Try.prog 35 #[.agg #[.slice da D.length dc], v', .agg #[va']] w' fun e w'' => e = .returned (.bool (wn D a' (R.filterMap (opn D j))).isSome) ∧ Below w'.heap.size w' w'') := hide (fun j a' va' w' v' ho hb hv hg hc' => by
    obtain ⟨w1, w2⟩ := WR.opn hd hwr ho hnam
    exact ih a' _ va' v' w' (by omega) w1 (hD.below hb) hv hg hc')
  subst ha
  obtain ⟨g, o2, cc, sx, rfl, hcc, -, hgl, gk, c0, c1, tl⟩ := hG.head hC
  have hrl : r.len + 1 ≤ 1000 := by simpa [F.len] using hal
  obtain ⟨A, hA⟩ : ∃ A, A = F.cons x k r := ⟨_, rfl⟩
  rw [← hA] at HOn HRec hres ⊢
  have hkd := good_kd hwr.ok.1
  obtain ⟨gg, hgg⟩ : ∃ gg, gg = gU D A R := ⟨_, rfl⟩
  rw [← hgg] at hres
  have HGg : Hid (∀ j : Nat, gg j = match opn D j A with | none => none | some a' => (wn D a' (R.filterMap (opn D j))).map ((⟨2, (j : Int)⟩ : Pt) :: ·)) := hide (fun j => by rw [hgg]; rfl)
  obtain ⟨B, hBe⟩ : ∃ B, B = (wn D A R).isSome := ⟨_, rfl⟩
  have HRes : Hid (B = (fstS gg D.length (D.length - 0)).isSome) := hide (by rw [hBe]; exact hres)
  rw [← hBe]
  have HB0 := hide (show Below w.heap.size w ((w.alloc (.cells #[.slice da D.length dc] 31)).alloc (.cells #[.slice (some ⟨g, o2, none⟩) (r.len + 1) cc] 70)) from ((Below.refl _ _).alloc (Nat.le_refl _) _).alloc (by simp) _)
  have HX0 := hide ((Bx.new w #[.slice da D.length dc] 31).alloc (.cells #[.slice (some ⟨g, o2, none⟩) (r.len + 1) cc] 70))
  have HY0 := hide (Bx.new (w.alloc (.cells #[.slice da D.length dc] 31)) #[.slice (some ⟨g, o2, none⟩) (r.len + 1) cc] 70)
  have hz1 : (w.alloc (.cells #[.slice da D.length dc] 31)).heap.size = w.heap.size + 1 := by simp
  rw [hz1] at HY0
  obtain ⟨RL, hRL⟩ : ∃ RL, RL = r.len := ⟨_, rfl⟩
  rw [← hRL] at HOn HB0 HX0 HY0 hrl hcc ⊢
  obtain ⟨RN, hRN⟩ : ∃ RN, RN = R.length := ⟨_, rfl⟩
  rw [← hRN] at HNa HNar h8 ⊢
  obtain ⟨Y, hY⟩ : ∃ Y, Y = tcon x := ⟨_, rfl⟩
  rw [← hY] at c0
  have hYc : (Y = -1 ∧ R.any nam1 = true) ∨ 0 ≤ Y := by
    rcases hkd with ⟨h1, h2⟩ | ⟨h1, h2, h3⟩
    · left
      refine ⟨by rw [hY]; simp [tcon, h1], ?_⟩
      rw [← Bool.not_eq_false]
      exact fun h => hc ⟨h1, h⟩
    · right
      rw [hY]; simp [tcon, h1]; omega
  have hn0 : ¬ (RL : Int) + 1 = 0 := by omega
  have hnb : ((RL : Int) + 1 == 0) = false := beq_false_of_ne (by omega)
  have d0 : ∀ o1 o2' : Obj, ((w.alloc o1).alloc o2').cell? ⟨g, o2, none⟩ = some (.int .i64 Y) := fun o1 o2' => by
    have h1 : (w.alloc o1).cell? ⟨g, o2, none⟩ = some (.int .i64 Y) := by rw [World.cell?_alloc_some _ _ _ (by rw [c0]; rfl)]; exact c0
    rw [World.cell?_alloc_some _ _ _ (by rw [h1]; rfl)]; exact h1
  have HCl : Hid (∀ (w3 : World), Below w.heap.size w w3 → Bx w3 w.heap.size #[.slice da D.length dc] 31 → Bx w3 (w.heap.size + 1) #[.slice (some ⟨g, o2, none⟩) (RL + 1) cc] 70 → True) := hide (fun _ _ _ _ => trivial)
  clear hV hG hD hC hwr hd hRN hRL hBe hres hok tl gk c0 c1 ih hf hz1 hok2 hal hnam hc hkd hgg hY HCl
  rcases hYc with ⟨hY1, hR1⟩ | hY0
  · subst hY1
    rw [hR1] at HNa
    clear hR1
    go_enter Try.func35, Try.ntmps35
    go_wp2_with fail
    refine Calls.mono (HNa.out _ HB0.out) ?_
    rintro e w3 ⟨rfl, hb3⟩
    have hB3 : Below w.heap.size w w3 := HB0.out.trans (hb3.mono HB0.out.size)
    have HX3 := hide (HX0.out.below hb3 HX0.out.lt)
    have HY3 := hide (HY0.out.below hb3 HY0.out.lt)
    clear hb3 HX0 HY0 HB0 HNa d0
    have cx := HX3.out.c
    go_wp2_with fail
    clear cx
    go_loopw [38] (fun i w' => ∃ j : Nat, j ≤ D.length ∧ i = .int .i64 j ∧ Hid (B = (fstS gg D.length (D.length - j)).isSome) ∧ Bx w' w.heap.size #[.slice da D.length dc] 31 ∧ Bx w' (w.heap.size + 1) #[.slice (some ⟨g, o2, none⟩) (RL + 1) cc] 70 ∧ Below w.heap.size w w') (fun i _ => D.length - (intOf i).toNat)
    case atStart => exact ⟨0, Nat.zero_le _, rfl, HRes, HX3.out, HY3.out, hB3⟩
    case round =>
      clear HRes HX3 HY3 hB3
      obtain ⟨j, hj, rfl, HRes, hX, hY2, hB⟩ := hrel
      have HX := hide hX
      have HY := hide hY2
      have hsz := hB.size
      by_cases hlt : j < D.length
      · have hlt' : (j : Int) < (D.length : Int) := by omega
        have hstep := fstS_step (g := gg) hlt
        rw [HGg.out j] at hstep
        obtain ⟨W4, hW4⟩ : ∃ W4, W4 = wr.alloc (.cells #[.slice (some ⟨g, o2, none⟩) (RL + 1) cc] 70) := ⟨_, rfl⟩
        have hb4 : Below wr.heap.size wr W4 := by rw [hW4]; exact (Below.refl _ _).alloc (Nat.le_refl _) _
        have hB4 : Below w.heap.size w W4 := hB.trans (hb4.mono hsz)
        have HC4 := hide (HOn.out j wr.heap.size W4 hlt hB4 (by rw [hW4]; exact Bx.new _ _ _))
        have HX4 := hide (HX.out.below hb4 hX.lt)
        have HY4 := hide (HY.out.below hb4 hY2.lt)
        have HW4 := hide hW4
        have c0 := hX.c
        have c1 := hY2.c
        have HNj : Hid (∀ (w' : World), Below w.heap.size w w' → Calls Try.prog 39 #[.agg #[.slice da D.length dc], .slice ra RN rc, .int .i64 (j : Int)] w' fun e w'' => ∃ v', e = .returned v' ∧ RV w'' v' (R.filterMap (opn D j)) ∧ Below w'.heap.size w' w'') := hide (fun w' hb => HNar.out j w' hlt hb)
        clear hW4 hb4 hX hY2
        go_wp2_with fail
        rw [← HW4.out]
        refine Calls.mono HC4.out ?_
        rintro e w5 ⟨v5, rfl, hrv5, hb5⟩
        have hB5 : Below w.heap.size w w5 := hB4.trans (hb5.mono hB4.size)
        have HX5 := hide (HX4.out.below hb5 HX4.out.lt)
        have HY5 := hide (HY4.out.below hb5 HY4.out.lt)
        have xl0 := HX5.out.lt
        have yl0 := HY5.out.lt
        have b0 : w5.cell? ⟨w.heap.size, 0, none⟩ = some (.slice da D.length dc) := HX5.out.c 0
        clear HC4 HX4 HY4 hb5 HW4 c0 c1 hB4 HX HY
        cases ho : opn D j A with
        | none =>
          rw [ho] at hstep
          have HR2 : Hid (B = (fstS gg D.length (D.length - (j + 1))).isSome) := hide (by rw [HRes.out, hstep])
          have he : [A].filterMap (opn D j) = [] := by simp [ho]
          rw [he] at hrv5
          obtain ⟨oa, oc, rfl, -⟩ := hrv5.form
          clear hrv5 he ho hstep HRes
          simp only [List.length_nil]
          go_wp2_with fail
          refine wp_region_noPanic ?_
          refine wp_region_held_drew (S := fun w' => w'.cell? ⟨w.heap.size, 0, none⟩ = some (.slice da D.length dc)) (by kernel_rfl) b0 (fun hHeld => ?_)
          refine wpAnyH_take (i := 0) (oi := _) (v := ?_) rfl (by kernel_rfl) (by kernel_rfl) (by kernel_rfl) (fun _ _ _ h => h) (Or.inl ⟨by rfl, ?_⟩) (by assumption) ?_
          rotate_left 1
          · (intro w hSw; (try dsimp only at hSw); (first | (go_simp; done) | (go_simp; with_reducible rfl)))
          try simp only [Act.put, List.getElem_toArray, List.getElem_cons_zero, List.getElem_cons_succ, List.setIfInBounds_toArray, List.set_cons_zero, List.set_cons_succ]
          refine wpAnyH_take (i := 1) (oi := _) (v := ?_) rfl (by kernel_rfl) (by kernel_rfl) (by kernel_rfl) (fun _ _ _ h => h) (Or.inl ⟨by rfl, ?_⟩) (by assumption) ?_
          rotate_left 1
          · (intro w hSw; (try dsimp only at hSw); (first | (go_simp; done) | (go_simp; with_reducible rfl)))
          try simp only [Act.put, List.getElem_toArray, List.getElem_cons_zero, List.getElem_cons_succ, List.setIfInBounds_toArray, List.set_cons_zero, List.set_cons_succ]
          refine wpAnyH_take (i := 2) (oi := _) (v := ?_) rfl (by kernel_rfl) (by kernel_rfl) (by kernel_rfl) (fun _ _ _ h => h) (Or.inl ⟨by rfl, ?_⟩) (by assumption) ?_
          rotate_left 1
          · (intro w hSw; (try dsimp only at hSw); (first | (go_simp; done) | (go_simp; with_reducible rfl)))
          try simp only [Act.put, List.getElem_toArray, List.getElem_cons_zero, List.getElem_cons_succ, List.setIfInBounds_toArray, List.set_cons_zero, List.set_cons_succ]
          refine wpAnyH_take (i := 3) (oi := _) (v := ?_) rfl (by kernel_rfl) (by kernel_rfl) (by kernel_rfl) (fun _ _ _ h => h) (Or.inl ⟨by rfl, ?_⟩) (by assumption) ?_
          rotate_left 1
          · (intro w hSw; (try dsimp only at hSw); (first | (go_simp; done) | (go_simp; with_reducible rfl)))
          try simp only [Act.put, List.getElem_toArray, List.getElem_cons_zero, List.getElem_cons_succ, List.setIfInBounds_toArray, List.set_cons_zero, List.set_cons_succ]
          refine wpAnyH_take (i := 4) (oi := _) (v := undef) rfl (by kernel_rfl) (by kernel_rfl) (by kernel_rfl) (fun _ _ _ h => h) (Or.inr ⟨by rfl, rfl⟩) (by assumption) ?_
          try simp only [Act.put, List.getElem_toArray, List.getElem_cons_zero, List.getElem_cons_succ, List.setIfInBounds_toArray, List.set_cons_zero, List.set_cons_succ]
          refine wpAnyH_take (i := 5) (oi := _) (v := undef) rfl (by kernel_rfl) (by kernel_rfl) (by kernel_rfl) (fun _ _ _ h => h) (Or.inr ⟨by rfl, rfl⟩) (by assumption) ?_
          try simp only [Act.put, List.getElem_toArray, List.getElem_cons_zero, List.getElem_cons_succ, List.setIfInBounds_toArray, List.set_cons_zero, List.set_cons_succ]
          refine wpAnyH_take (i := 6) (oi := _) (v := undef) rfl (by kernel_rfl) (by kernel_rfl) (by kernel_rfl) (fun _ _ _ h => h) (Or.inr ⟨by rfl, rfl⟩) (by assumption) ?_
          try simp only [Act.put, List.getElem_toArray, List.getElem_cons_zero, List.getElem_cons_succ, List.setIfInBounds_toArray, List.set_cons_zero, List.set_cons_succ]
          refine wpAnyH_take (i := 7) (oi := _) (v := undef) rfl (by kernel_rfl) (by kernel_rfl) (by kernel_rfl) (fun _ _ _ h => h) (Or.inr ⟨by rfl, rfl⟩) (by assumption) ?_
          try simp only [Act.put, List.getElem_toArray, List.getElem_cons_zero, List.getElem_cons_succ, List.setIfInBounds_toArray, List.set_cons_zero, List.set_cons_succ]
          refine wpAnyH_take (i := 8) (oi := _) (v := undef) rfl (by kernel_rfl) (by kernel_rfl) (by kernel_rfl) (fun _ _ _ h => h) (Or.inr ⟨by rfl, rfl⟩) (by assumption) ?_
          try simp only [Act.put, List.getElem_toArray, List.getElem_cons_zero, List.getElem_cons_succ, List.setIfInBounds_toArray, List.set_cons_zero, List.set_cons_succ]
          refine wpAnyH_take (i := 9) (oi := _) (v := undef) rfl (by kernel_rfl) (by kernel_rfl) (by kernel_rfl) (fun _ _ _ h => h) (Or.inr ⟨by rfl, rfl⟩) (by assumption) ?_
          try simp only [Act.put, List.getElem_toArray, List.getElem_cons_zero, List.getElem_cons_succ, List.setIfInBounds_toArray, List.set_cons_zero, List.set_cons_succ]
          refine wpAnyH_take (i := 10) (oi := _) (v := undef) rfl (by kernel_rfl) (by kernel_rfl) (by kernel_rfl) (fun _ _ _ h => h) (Or.inr ⟨by rfl, rfl⟩) (by assumption) ?_
          try simp only [Act.put, List.getElem_toArray, List.getElem_cons_zero, List.getElem_cons_succ, List.setIfInBounds_toArray, List.set_cons_zero, List.set_cons_succ]
          refine wpAnyH_take (i := 11) (oi := _) (v := undef) rfl (by kernel_rfl) (by kernel_rfl) (by kernel_rfl) (fun _ _ _ h => h) (Or.inr ⟨by rfl, rfl⟩) (by assumption) ?_
          try simp only [Act.put, List.getElem_toArray, List.getElem_cons_zero, List.getElem_cons_succ, List.setIfInBounds_toArray, List.set_cons_zero, List.set_cons_succ]
          refine wpAnyH_take (i := 12) (oi := _) (v := undef) rfl (by kernel_rfl) (by kernel_rfl) (by kernel_rfl) (fun _ _ _ h => h) (Or.inr ⟨by rfl, rfl⟩) (by assumption) ?_
          try simp only [Act.put, List.getElem_toArray, List.getElem_cons_zero, List.getElem_cons_succ, List.setIfInBounds_toArray, List.set_cons_zero, List.set_cons_succ]
          refine wpAnyH_take (i := 13) (oi := _) (v := ?_) rfl (by kernel_rfl) (by kernel_rfl) (by kernel_rfl) (fun _ _ _ h => h) (Or.inl ⟨by rfl, ?_⟩) (by assumption) ?_
          rotate_left 1
          · (intro w hSw; (try dsimp only at hSw); (first | (go_simp; done) | (go_simp; with_reducible rfl)))
          try simp only [Act.put, List.getElem_toArray, List.getElem_cons_zero, List.getElem_cons_succ, List.setIfInBounds_toArray, List.set_cons_zero, List.set_cons_succ]
          refine wpAnyH_done (by kernel_rfl) ?_ _
          refine NoPanic.normal ?_
          clear b0
          go_wp2_with fail
          go_roundw
          case rel => exact ⟨j + 1, by omega, by go_num, HR2, HX5.out, HY5.out, ⟨hB5.os, hB5.tape, hB5.output, hB5.size, hB5.block⟩⟩
          case measure => simp [intOf]; omega
        | some a' =>
          rw [ho] at hstep
          have he : [A].filterMap (opn D j) = [a'] := by simp [ho]
          rw [he] at hrv5
          obtain ⟨ob, oo, oc, vo, e5, hob, p5, gv5, cv5⟩ := hrv5.at (Below.refl _ _) (i := 0) (by simp)
          subst e5
          simp only [List.length_cons, List.length_nil, Nat.zero_add, List.getElem_cons_zero, Nat.add_zero] at p5 gv5
          have HRj : Hid (∀ (w' : World) (v' : Value), Below w.heap.size w w' → Below w5.heap.size w5 w' → RV w' v' (R.filterMap (opn D j)) → Calls Try.prog 35 #[.agg #[.slice da D.length dc], v', .agg #[vo]] w' fun e w'' => e = .returned (.bool (wn D a' (R.filterMap (opn D j))).isSome) ∧ Below w'.heap.size w' w'') := hide (fun w' v' hb h5 hv => HRec.out j a' vo w' v' ho hb hv ((gv5.weak (P' := fun _ => True) (fun _ _ _ => trivial)).below h5) cv5)
          have b1 : w5.cell? ⟨ob, oo, none⟩ = some vo := p5
          have xl1 : ob < w5.heap.size := hob
          obtain ⟨T, hT⟩ : ∃ T, T = wn D a' (R.filterMap (opn D j)) := ⟨_, rfl⟩
          simp only at hstep
          rw [← hT] at hstep HRj
          have HSt := hide hstep
          obtain ⟨voa, vol, voc, hvo⟩ : ∃ voa vol voc, vo = .slice voa vol voc := by obtain ⟨x1, x2, x3⟩ := gv5.form; exact ⟨_, _, _, x3⟩
          subst hvo
          clear hrv5 he ho hstep hT p5 gv5 cv5 hob
          simp only [List.length_cons, List.length_nil, Nat.zero_add]
          go_wp2_with fail
          refine wp_region_noPanic ?_
          refine wp_region_held_drew (S := fun w' => w'.cell? ⟨w.heap.size, 0, none⟩ = some (.slice da D.length dc) ∧ w'.cell? ⟨ob, oo, none⟩ = some (.slice voa vol voc)) (by kernel_rfl) ⟨b0, b1⟩ (fun hHeld => ?_)
          refine wpAnyH_take (i := 0) (oi := _) (v := ?_) rfl (by kernel_rfl) (by kernel_rfl) (by kernel_rfl) (fun _ _ _ h => h) (Or.inl ⟨by rfl, ?_⟩) (by assumption) ?_
          rotate_left 1
          · (intro w hSw; (try dsimp only at hSw); (first | (go_simp; done) | (go_simp; with_reducible rfl)))
          try simp only [Act.put, List.getElem_toArray, List.getElem_cons_zero, List.getElem_cons_succ, List.setIfInBounds_toArray, List.set_cons_zero, List.set_cons_succ]
          refine wpAnyH_take (i := 1) (oi := _) (v := ?_) rfl (by kernel_rfl) (by kernel_rfl) (by kernel_rfl) (fun _ _ _ h => h) (Or.inl ⟨by rfl, ?_⟩) (by assumption) ?_
          rotate_left 1
          · (intro w hSw; (try dsimp only at hSw); (first | (go_simp; done) | (go_simp; with_reducible rfl)))
          try simp only [Act.put, List.getElem_toArray, List.getElem_cons_zero, List.getElem_cons_succ, List.setIfInBounds_toArray, List.set_cons_zero, List.set_cons_succ]
          refine wpAnyH_take (i := 2) (oi := _) (v := ?_) rfl (by kernel_rfl) (by kernel_rfl) (by kernel_rfl) (fun _ _ _ h => h) (Or.inl ⟨by rfl, ?_⟩) (by assumption) ?_
          rotate_left 1
          · (intro w hSw; (try dsimp only at hSw); (first | (go_simp; done) | (go_simp; with_reducible rfl)))
          try simp only [Act.put, List.getElem_toArray, List.getElem_cons_zero, List.getElem_cons_succ, List.setIfInBounds_toArray, List.set_cons_zero, List.set_cons_succ]
          refine wpAnyH_take (i := 3) (oi := _) (v := ?_) rfl (by kernel_rfl) (by kernel_rfl) (by kernel_rfl) (fun _ _ _ h => h) (Or.inl ⟨by rfl, ?_⟩) (by assumption) ?_
          rotate_left 1
          · (intro w hSw; (try dsimp only at hSw); (first | (go_simp; done) | (go_simp; with_reducible rfl)))
          try simp only [Act.put, List.getElem_toArray, List.getElem_cons_zero, List.getElem_cons_succ, List.setIfInBounds_toArray, List.set_cons_zero, List.set_cons_succ]
          refine wpAnyH_take (i := 4) (oi := _) (v := ?_) rfl (by kernel_rfl) (by kernel_rfl) (by kernel_rfl) (fun _ _ _ h => h) (Or.inl ⟨by rfl, ?_⟩) (by assumption) ?_
          rotate_left 1
          · (intro w hSw; (try dsimp only at hSw); (first | (go_simp; done) | (go_simp; with_reducible rfl)))
          try simp only [Act.put, List.getElem_toArray, List.getElem_cons_zero, List.getElem_cons_succ, List.setIfInBounds_toArray, List.set_cons_zero, List.set_cons_succ]
          refine wpAnyH_take (i := 5) (oi := _) (v := ?_) rfl (by kernel_rfl) (by kernel_rfl) (by kernel_rfl) (fun _ _ _ h => h) (Or.inl ⟨by rfl, ?_⟩) (by assumption) ?_
          rotate_left 1
          · (intro w hSw; (try dsimp only at hSw); (first | (go_simp; done) | (go_simp; with_reducible rfl)))
          try simp only [Act.put, List.getElem_toArray, List.getElem_cons_zero, List.getElem_cons_succ, List.setIfInBounds_toArray, List.set_cons_zero, List.set_cons_succ]
          refine wpAnyH_take (i := 6) (oi := _) (v := ?_) rfl (by kernel_rfl) (by kernel_rfl) (by kernel_rfl) (fun _ _ _ h => h) (Or.inl ⟨by rfl, ?_⟩) (by assumption) ?_
          rotate_left 1
          · (intro w hSw; (try dsimp only at hSw); (first | (go_simp; done) | (go_simp; with_reducible rfl)))
          try simp only [Act.put, List.getElem_toArray, List.getElem_cons_zero, List.getElem_cons_succ, List.setIfInBounds_toArray, List.set_cons_zero, List.set_cons_succ]
          refine wpAnyH_take (i := 7) (oi := _) (v := ?_) rfl (by kernel_rfl) (by kernel_rfl) (by kernel_rfl) (fun _ _ _ h => h) (Or.inl ⟨by rfl, ?_⟩) (by assumption) ?_
          rotate_left 1
          · (intro w hSw; (try dsimp only at hSw); (first | (go_simp; done) | (go_simp; with_reducible rfl)))
          try simp only [Act.put, List.getElem_toArray, List.getElem_cons_zero, List.getElem_cons_succ, List.setIfInBounds_toArray, List.set_cons_zero, List.set_cons_succ]
          refine wpAnyH_take (i := 9) (oi := _) (v := ?_) rfl (by kernel_rfl) (by kernel_rfl) (by kernel_rfl) (fun _ _ _ h => h) (Or.inl ⟨by rfl, ?_⟩) (by assumption) ?_
          rotate_left 1
          · (intro w hSw; (try dsimp only at hSw); (first | (go_simp; done) | (go_simp; with_reducible rfl)))
          try simp only [Act.put, List.getElem_toArray, List.getElem_cons_zero, List.getElem_cons_succ, List.setIfInBounds_toArray, List.set_cons_zero, List.set_cons_succ]
          refine wpAnyH_take (i := 10) (oi := _) (v := ?_) rfl (by kernel_rfl) (by kernel_rfl) (by kernel_rfl) (fun _ _ _ h => h) (Or.inl ⟨by rfl, ?_⟩) (by assumption) ?_
          rotate_left 1
          · (intro w hSw; (try dsimp only at hSw); (first | (go_simp; done) | (go_simp; with_reducible rfl)))
          try simp only [Act.put, List.getElem_toArray, List.getElem_cons_zero, List.getElem_cons_succ, List.setIfInBounds_toArray, List.set_cons_zero, List.set_cons_succ]
          refine wpAnyH_take (i := 11) (oi := _) (v := ?_) rfl (by kernel_rfl) (by kernel_rfl) (by kernel_rfl) (fun _ _ _ h => h) (Or.inl ⟨by rfl, ?_⟩) (by assumption) ?_
          rotate_left 1
          · (intro w hSw; (try dsimp only at hSw); (first | (go_simp; done) | (go_simp; with_reducible rfl)))
          try simp only [Act.put, List.getElem_toArray, List.getElem_cons_zero, List.getElem_cons_succ, List.setIfInBounds_toArray, List.set_cons_zero, List.set_cons_succ]
          refine wpAnyH_ready (rs := [8]) (by kernel_rfl) (by simp) ?_
          refine AllReadyH.cons (o := _) rfl (fun K hK => ?_) AllReadyH.nil
          go_simp
          (with_reducible refine Calls.mono (HNj.out w5.drew (belowDrew8 hB5)) ?_)
          rintro r wa ⟨vn, rfl, hrv, hba⟩
          have HRv := hide hrv
          have hBa : Below w.heap.size w wa := (belowDrew8 hB5).trans (hba.mono hB5.size)
          have HB5a := hide (show Below w5.heap.size w5 wa from ⟨hba.os, hba.tape, hba.output, hba.size, hba.block⟩)
          have fa0 := (hba.cell (p := ⟨w.heap.size, 0, none⟩) xl0).trans b0
          have fa1 := (hba.cell (p := ⟨ob, oo, none⟩) xl1).trans b1
          have xa0 : w.heap.size < wa.heap.size := Nat.lt_of_lt_of_le xl0 hba.size
          have xa1 : ob < wa.heap.size := Nat.lt_of_lt_of_le xl1 hba.size
          clear hba
          obtain ⟨na, nc, rfl, -⟩ := hrv.form
          clear hrv
          (try go_wp2_with fail)
          refine hK.out _ _ ⟨fa0, fa1⟩ (fun hHeld => ?_)
          clear hK K
          try simp only [Act.put, List.getElem_toArray, List.getElem_cons_zero, List.getElem_cons_succ, List.setIfInBounds_toArray, List.set_cons_zero, List.set_cons_succ]
          refine wpAnyH_ready (rs := [12]) (by kernel_rfl) (by simp) ?_
          refine AllReadyH.cons (o := _) rfl (fun K hK => ?_) AllReadyH.nil
          go_simp
          (with_reducible refine Calls.mono (HRj.out wa _ hBa HB5a.out HRv.out) ?_)
          rintro r wb ⟨rfl, hbb⟩
          have hBb : Below w.heap.size w wb := hBa.trans (hbb.mono hBa.size)
          have fb0 := (hbb.cell (p := ⟨w.heap.size, 0, none⟩) xa0).trans fa0
          have fb1 := (hbb.cell (p := ⟨ob, oo, none⟩) xa1).trans fa1
          have HXb := hide (HX5.out.below (HB5a.out.trans (hbb.mono HB5a.out.size)) xl0)
          have HYb := hide (HY5.out.below (HB5a.out.trans (hbb.mono HB5a.out.size)) yl0)
          clear hbb
          (try go_wp2_with fail)
          refine hK.out _ _ ⟨fb0, fb1⟩ (fun hHeld => ?_)
          clear hK K
          try simp only [Act.put, List.getElem_toArray, List.getElem_cons_zero, List.getElem_cons_succ, List.setIfInBounds_toArray, List.set_cons_zero, List.set_cons_succ]
          refine wpAnyH_take (i := 13) (oi := _) (v := ?_) rfl (by kernel_rfl) (by kernel_rfl) (by kernel_rfl) (fun _ _ _ h => h) (Or.inl ⟨by rfl, ?_⟩) (by assumption) ?_
          rotate_left 1
          · (intro w hSw; (try dsimp only at hSw); (first | (go_simp; done) | (go_simp; with_reducible rfl)))
          try simp only [Act.put, List.getElem_toArray, List.getElem_cons_zero, List.getElem_cons_succ, List.setIfInBounds_toArray, List.set_cons_zero, List.set_cons_succ]
          refine wpAnyH_done (by kernel_rfl) ?_ _
          refine NoPanic.normal ?_
          clear b0 b1 fa0 fa1 fb0 fb1 HRj HNj HRv
          cases T with
          | none =>
            have HR2 : Hid (B = (fstS gg D.length (D.length - (j + 1))).isSome) := hide (by rw [HRes.out, HSt.out]; rfl)
            clear HRes HSt
            simp only [Option.isSome_none]
            go_wp2_with fail
            go_roundw
            case rel => exact ⟨j + 1, by omega, by go_num, HR2, HXb.out, HYb.out, hBb⟩
            case measure => simp [intOf]; omega
          | some l =>
            have HR2 : Hid (true = B) := hide (by rw [HRes.out, HSt.out]; rfl)
            clear HRes HSt
            simp only [Option.isSome_some]
            go_wp2_with fail
            go_ret
            exact ⟨ret_bool8 HR2.out, hBb⟩
      · obtain rfl : j = D.length := by omega
        have HR2 : Hid (false = B) := hide (by rw [HRes.out, fstS_end]; rfl)
        clear HRes hX hY2
        go_wp2_with fail
        go_ret
        exact ⟨ret_bool8 HR2.out, hB⟩
  · have hyn : ¬ Y = -1 := by omega
    have hyb : (Y == -1) = false := beq_false_of_ne (by omega)
    have HX3 := HX0
    have HY3 := HY0
    have HB3 := HB0
    obtain ⟨w3, hw3⟩ : ∃ w3, w3 = (w.alloc (.cells #[.slice da D.length dc] 31)).alloc (.cells #[.slice (some ⟨g, o2, none⟩) (RL + 1) cc] 70) := ⟨_, rfl⟩
    rw [← hw3] at HX3 HY3 HB3
    have hB3 := HB3.out
    have HW3 := hide hw3
    clear HX0 HY0 HB0 HNa HB3 hw3
    go_enter Try.func35, Try.ntmps35
    go_upto_region 5 with fail
    rw [← HW3.out]
    clear HW3 d0 hyn hyb hY0
    have cx := HX3.out.c
    go_wp2_with fail
    clear cx
    go_loopw [38] (fun i w' => ∃ j : Nat, j ≤ D.length ∧ i = .int .i64 j ∧ Hid (B = (fstS gg D.length (D.length - j)).isSome) ∧ Bx w' w.heap.size #[.slice da D.length dc] 31 ∧ Bx w' (w.heap.size + 1) #[.slice (some ⟨g, o2, none⟩) (RL + 1) cc] 70 ∧ Below w.heap.size w w') (fun i _ => D.length - (intOf i).toNat)
    case atStart => exact ⟨0, Nat.zero_le _, rfl, HRes, HX3.out, HY3.out, hB3⟩
    case round =>
      clear HRes HX3 HY3 hB3
      obtain ⟨j, hj, rfl, HRes, hX, hY2, hB⟩ := hrel
      have HX := hide hX
      have HY := hide hY2
      have hsz := hB.size
      by_cases hlt : j < D.length
      · have hlt' : (j : Int) < (D.length : Int) := by omega
        have hstep := fstS_step (g := gg) hlt
        rw [HGg.out j] at hstep
        obtain ⟨W4, hW4⟩ : ∃ W4, W4 = wr.alloc (.cells #[.slice (some ⟨g, o2, none⟩) (RL + 1) cc] 70) := ⟨_, rfl⟩
        have hb4 : Below wr.heap.size wr W4 := by rw [hW4]; exact (Below.refl _ _).alloc (Nat.le_refl _) _
        have hB4 : Below w.heap.size w W4 := hB.trans (hb4.mono hsz)
        have HC4 := hide (HOn.out j wr.heap.size W4 hlt hB4 (by rw [hW4]; exact Bx.new _ _ _))
        have HX4 := hide (HX.out.below hb4 hX.lt)
        have HY4 := hide (HY.out.below hb4 hY2.lt)
        have HW4 := hide hW4
        have c0 := hX.c
        have c1 := hY2.c
        have HNj : Hid (∀ (w' : World), Below w.heap.size w w' → Calls Try.prog 39 #[.agg #[.slice da D.length dc], .slice ra RN rc, .int .i64 (j : Int)] w' fun e w'' => ∃ v', e = .returned v' ∧ RV w'' v' (R.filterMap (opn D j)) ∧ Below w'.heap.size w' w'') := hide (fun w' hb => HNar.out j w' hlt hb)
        clear hW4 hb4 hX hY2
        go_wp2_with fail
        rw [← HW4.out]
        refine Calls.mono HC4.out ?_
        rintro e w5 ⟨v5, rfl, hrv5, hb5⟩
        have hB5 : Below w.heap.size w w5 := hB4.trans (hb5.mono hB4.size)
        have HX5 := hide (HX4.out.below hb5 HX4.out.lt)
        have HY5 := hide (HY4.out.below hb5 HY4.out.lt)
        have xl0 := HX5.out.lt
        have yl0 := HY5.out.lt
        have b0 : w5.cell? ⟨w.heap.size, 0, none⟩ = some (.slice da D.length dc) := HX5.out.c 0
        clear HC4 HX4 HY4 hb5 HW4 c0 c1 hB4 HX HY
        cases ho : opn D j A with
        | none =>
          rw [ho] at hstep
          have HR2 : Hid (B = (fstS gg D.length (D.length - (j + 1))).isSome) := hide (by rw [HRes.out, hstep])
          have he : [A].filterMap (opn D j) = [] := by simp [ho]
          rw [he] at hrv5
          obtain ⟨oa, oc, rfl, -⟩ := hrv5.form
          clear hrv5 he ho hstep HRes
          simp only [List.length_nil]
          go_wp2_with fail
          refine wp_region_noPanic ?_
          refine wp_region_held_drew (S := fun w' => w'.cell? ⟨w.heap.size, 0, none⟩ = some (.slice da D.length dc)) (by kernel_rfl) b0 (fun hHeld => ?_)
          refine wpAnyH_take (i := 0) (oi := _) (v := ?_) rfl (by kernel_rfl) (by kernel_rfl) (by kernel_rfl) (fun _ _ _ h => h) (Or.inl ⟨by rfl, ?_⟩) (by assumption) ?_
          rotate_left 1
          · (intro w hSw; (try dsimp only at hSw); (first | (go_simp; done) | (go_simp; with_reducible rfl)))
          try simp only [Act.put, List.getElem_toArray, List.getElem_cons_zero, List.getElem_cons_succ, List.setIfInBounds_toArray, List.set_cons_zero, List.set_cons_succ]
          refine wpAnyH_take (i := 1) (oi := _) (v := ?_) rfl (by kernel_rfl) (by kernel_rfl) (by kernel_rfl) (fun _ _ _ h => h) (Or.inl ⟨by rfl, ?_⟩) (by assumption) ?_
          rotate_left 1
          · (intro w hSw; (try dsimp only at hSw); (first | (go_simp; done) | (go_simp; with_reducible rfl)))
          try simp only [Act.put, List.getElem_toArray, List.getElem_cons_zero, List.getElem_cons_succ, List.setIfInBounds_toArray, List.set_cons_zero, List.set_cons_succ]
          refine wpAnyH_take (i := 2) (oi := _) (v := ?_) rfl (by kernel_rfl) (by kernel_rfl) (by kernel_rfl) (fun _ _ _ h => h) (Or.inl ⟨by rfl, ?_⟩) (by assumption) ?_
          rotate_left 1
          · (intro w hSw; (try dsimp only at hSw); (first | (go_simp; done) | (go_simp; with_reducible rfl)))
          try simp only [Act.put, List.getElem_toArray, List.getElem_cons_zero, List.getElem_cons_succ, List.setIfInBounds_toArray, List.set_cons_zero, List.set_cons_succ]
          refine wpAnyH_take (i := 3) (oi := _) (v := ?_) rfl (by kernel_rfl) (by kernel_rfl) (by kernel_rfl) (fun _ _ _ h => h) (Or.inl ⟨by rfl, ?_⟩) (by assumption) ?_
          rotate_left 1
          · (intro w hSw; (try dsimp only at hSw); (first | (go_simp; done) | (go_simp; with_reducible rfl)))
          try simp only [Act.put, List.getElem_toArray, List.getElem_cons_zero, List.getElem_cons_succ, List.setIfInBounds_toArray, List.set_cons_zero, List.set_cons_succ]
          refine wpAnyH_take (i := 4) (oi := _) (v := undef) rfl (by kernel_rfl) (by kernel_rfl) (by kernel_rfl) (fun _ _ _ h => h) (Or.inr ⟨by rfl, rfl⟩) (by assumption) ?_
          try simp only [Act.put, List.getElem_toArray, List.getElem_cons_zero, List.getElem_cons_succ, List.setIfInBounds_toArray, List.set_cons_zero, List.set_cons_succ]
          refine wpAnyH_take (i := 5) (oi := _) (v := undef) rfl (by kernel_rfl) (by kernel_rfl) (by kernel_rfl) (fun _ _ _ h => h) (Or.inr ⟨by rfl, rfl⟩) (by assumption) ?_
          try simp only [Act.put, List.getElem_toArray, List.getElem_cons_zero, List.getElem_cons_succ, List.setIfInBounds_toArray, List.set_cons_zero, List.set_cons_succ]
          refine wpAnyH_take (i := 6) (oi := _) (v := undef) rfl (by kernel_rfl) (by kernel_rfl) (by kernel_rfl) (fun _ _ _ h => h) (Or.inr ⟨by rfl, rfl⟩) (by assumption) ?_
          try simp only [Act.put, List.getElem_toArray, List.getElem_cons_zero, List.getElem_cons_succ, List.setIfInBounds_toArray, List.set_cons_zero, List.set_cons_succ]
          refine wpAnyH_take (i := 7) (oi := _) (v := undef) rfl (by kernel_rfl) (by kernel_rfl) (by kernel_rfl) (fun _ _ _ h => h) (Or.inr ⟨by rfl, rfl⟩) (by assumption) ?_
          try simp only [Act.put, List.getElem_toArray, List.getElem_cons_zero, List.getElem_cons_succ, List.setIfInBounds_toArray, List.set_cons_zero, List.set_cons_succ]
          refine wpAnyH_take (i := 8) (oi := _) (v := undef) rfl (by kernel_rfl) (by kernel_rfl) (by kernel_rfl) (fun _ _ _ h => h) (Or.inr ⟨by rfl, rfl⟩) (by assumption) ?_
          try simp only [Act.put, List.getElem_toArray, List.getElem_cons_zero, List.getElem_cons_succ, List.setIfInBounds_toArray, List.set_cons_zero, List.set_cons_succ]
          refine wpAnyH_take (i := 9) (oi := _) (v := undef) rfl (by kernel_rfl) (by kernel_rfl) (by kernel_rfl) (fun _ _ _ h => h) (Or.inr ⟨by rfl, rfl⟩) (by assumption) ?_
          try simp only [Act.put, List.getElem_toArray, List.getElem_cons_zero, List.getElem_cons_succ, List.setIfInBounds_toArray, List.set_cons_zero, List.set_cons_succ]
          refine wpAnyH_take (i := 10) (oi := _) (v := undef) rfl (by kernel_rfl) (by kernel_rfl) (by kernel_rfl) (fun _ _ _ h => h) (Or.inr ⟨by rfl, rfl⟩) (by assumption) ?_
          try simp only [Act.put, List.getElem_toArray, List.getElem_cons_zero, List.getElem_cons_succ, List.setIfInBounds_toArray, List.set_cons_zero, List.set_cons_succ]
          refine wpAnyH_take (i := 11) (oi := _) (v := undef) rfl (by kernel_rfl) (by kernel_rfl) (by kernel_rfl) (fun _ _ _ h => h) (Or.inr ⟨by rfl, rfl⟩) (by assumption) ?_
          try simp only [Act.put, List.getElem_toArray, List.getElem_cons_zero, List.getElem_cons_succ, List.setIfInBounds_toArray, List.set_cons_zero, List.set_cons_succ]
          refine wpAnyH_take (i := 12) (oi := _) (v := undef) rfl (by kernel_rfl) (by kernel_rfl) (by kernel_rfl) (fun _ _ _ h => h) (Or.inr ⟨by rfl, rfl⟩) (by assumption) ?_
          try simp only [Act.put, List.getElem_toArray, List.getElem_cons_zero, List.getElem_cons_succ, List.setIfInBounds_toArray, List.set_cons_zero, List.set_cons_succ]
          refine wpAnyH_take (i := 13) (oi := _) (v := ?_) rfl (by kernel_rfl) (by kernel_rfl) (by kernel_rfl) (fun _ _ _ h => h) (Or.inl ⟨by rfl, ?_⟩) (by assumption) ?_
          rotate_left 1
          · (intro w hSw; (try dsimp only at hSw); (first | (go_simp; done) | (go_simp; with_reducible rfl)))
          try simp only [Act.put, List.getElem_toArray, List.getElem_cons_zero, List.getElem_cons_succ, List.setIfInBounds_toArray, List.set_cons_zero, List.set_cons_succ]
          refine wpAnyH_done (by kernel_rfl) ?_ _
          refine NoPanic.normal ?_
          clear b0
          go_wp2_with fail
          go_roundw
          case rel => exact ⟨j + 1, by omega, by go_num, HR2, HX5.out, HY5.out, ⟨hB5.os, hB5.tape, hB5.output, hB5.size, hB5.block⟩⟩
          case measure => simp [intOf]; omega
        | some a' =>
          rw [ho] at hstep
          have he : [A].filterMap (opn D j) = [a'] := by simp [ho]
          rw [he] at hrv5
          obtain ⟨ob, oo, oc, vo, e5, hob, p5, gv5, cv5⟩ := hrv5.at (Below.refl _ _) (i := 0) (by simp)
          subst e5
          simp only [List.length_cons, List.length_nil, Nat.zero_add, List.getElem_cons_zero, Nat.add_zero] at p5 gv5
          have HRj : Hid (∀ (w' : World) (v' : Value), Below w.heap.size w w' → Below w5.heap.size w5 w' → RV w' v' (R.filterMap (opn D j)) → Calls Try.prog 35 #[.agg #[.slice da D.length dc], v', .agg #[vo]] w' fun e w'' => e = .returned (.bool (wn D a' (R.filterMap (opn D j))).isSome) ∧ Below w'.heap.size w' w'') := hide (fun w' v' hb h5 hv => HRec.out j a' vo w' v' ho hb hv ((gv5.weak (P' := fun _ => True) (fun _ _ _ => trivial)).below h5) cv5)
          have b1 : w5.cell? ⟨ob, oo, none⟩ = some vo := p5
          have xl1 : ob < w5.heap.size := hob
          obtain ⟨T, hT⟩ : ∃ T, T = wn D a' (R.filterMap (opn D j)) := ⟨_, rfl⟩
          simp only at hstep
          rw [← hT] at hstep HRj
          have HSt := hide hstep
          obtain ⟨voa, vol, voc, hvo⟩ : ∃ voa vol voc, vo = .slice voa vol voc := by obtain ⟨x1, x2, x3⟩ := gv5.form; exact ⟨_, _, _, x3⟩
          subst hvo
          clear hrv5 he ho hstep hT p5 gv5 cv5 hob
          simp only [List.length_cons, List.length_nil, Nat.zero_add]
          go_wp2_with fail
          refine wp_region_noPanic ?_
          refine wp_region_held_drew (S := fun w' => w'.cell? ⟨w.heap.size, 0, none⟩ = some (.slice da D.length dc) ∧ w'.cell? ⟨ob, oo, none⟩ = some (.slice voa vol voc)) (by kernel_rfl) ⟨b0, b1⟩ (fun hHeld => ?_)
          refine wpAnyH_take (i := 0) (oi := _) (v := ?_) rfl (by kernel_rfl) (by kernel_rfl) (by kernel_rfl) (fun _ _ _ h => h) (Or.inl ⟨by rfl, ?_⟩) (by assumption) ?_
          rotate_left 1
          · (intro w hSw; (try dsimp only at hSw); (first | (go_simp; done) | (go_simp; with_reducible rfl)))
          try simp only [Act.put, List.getElem_toArray, List.getElem_cons_zero, List.getElem_cons_succ, List.setIfInBounds_toArray, List.set_cons_zero, List.set_cons_succ]
          refine wpAnyH_take (i := 1) (oi := _) (v := ?_) rfl (by kernel_rfl) (by kernel_rfl) (by kernel_rfl) (fun _ _ _ h => h) (Or.inl ⟨by rfl, ?_⟩) (by assumption) ?_
          rotate_left 1
          · (intro w hSw; (try dsimp only at hSw); (first | (go_simp; done) | (go_simp; with_reducible rfl)))
          try simp only [Act.put, List.getElem_toArray, List.getElem_cons_zero, List.getElem_cons_succ, List.setIfInBounds_toArray, List.set_cons_zero, List.set_cons_succ]
          refine wpAnyH_take (i := 2) (oi := _) (v := ?_) rfl (by kernel_rfl) (by kernel_rfl) (by kernel_rfl) (fun _ _ _ h => h) (Or.inl ⟨by rfl, ?_⟩) (by assumption) ?_
          rotate_left 1
          · (intro w hSw; (try dsimp only at hSw); (first | (go_simp; done) | (go_simp; with_reducible rfl)))
          try simp only [Act.put, List.getElem_toArray, List.getElem_cons_zero, List.getElem_cons_succ, List.setIfInBounds_toArray, List.set_cons_zero, List.set_cons_succ]
          refine wpAnyH_take (i := 3) (oi := _) (v := ?_) rfl (by kernel_rfl) (by kernel_rfl) (by kernel_rfl) (fun _ _ _ h => h) (Or.inl ⟨by rfl, ?_⟩) (by assumption) ?_
          rotate_left 1
          · (intro w hSw; (try dsimp only at hSw); (first | (go_simp; done) | (go_simp; with_reducible rfl)))
          try simp only [Act.put, List.getElem_toArray, List.getElem_cons_zero, List.getElem_cons_succ, List.setIfInBounds_toArray, List.set_cons_zero, List.set_cons_succ]
          refine wpAnyH_take (i := 4) (oi := _) (v := ?_) rfl (by kernel_rfl) (by kernel_rfl) (by kernel_rfl) (fun _ _ _ h => h) (Or.inl ⟨by rfl, ?_⟩) (by assumption) ?_
          rotate_left 1
          · (intro w hSw; (try dsimp only at hSw); (first | (go_simp; done) | (go_simp; with_reducible rfl)))
          try simp only [Act.put, List.getElem_toArray, List.getElem_cons_zero, List.getElem_cons_succ, List.setIfInBounds_toArray, List.set_cons_zero, List.set_cons_succ]
          refine wpAnyH_take (i := 5) (oi := _) (v := ?_) rfl (by kernel_rfl) (by kernel_rfl) (by kernel_rfl) (fun _ _ _ h => h) (Or.inl ⟨by rfl, ?_⟩) (by assumption) ?_
          rotate_left 1
          · (intro w hSw; (try dsimp only at hSw); (first | (go_simp; done) | (go_simp; with_reducible rfl)))
          try simp only [Act.put, List.getElem_toArray, List.getElem_cons_zero, List.getElem_cons_succ, List.setIfInBounds_toArray, List.set_cons_zero, List.set_cons_succ]
          refine wpAnyH_take (i := 6) (oi := _) (v := ?_) rfl (by kernel_rfl) (by kernel_rfl) (by kernel_rfl) (fun _ _ _ h => h) (Or.inl ⟨by rfl, ?_⟩) (by assumption) ?_
          rotate_left 1
          · (intro w hSw; (try dsimp only at hSw); (first | (go_simp; done) | (go_simp; with_reducible rfl)))
          try simp only [Act.put, List.getElem_toArray, List.getElem_cons_zero, List.getElem_cons_succ, List.setIfInBounds_toArray, List.set_cons_zero, List.set_cons_succ]
          refine wpAnyH_take (i := 7) (oi := _) (v := ?_) rfl (by kernel_rfl) (by kernel_rfl) (by kernel_rfl) (fun _ _ _ h => h) (Or.inl ⟨by rfl, ?_⟩) (by assumption) ?_
          rotate_left 1
          · (intro w hSw; (try dsimp only at hSw); (first | (go_simp; done) | (go_simp; with_reducible rfl)))
          try simp only [Act.put, List.getElem_toArray, List.getElem_cons_zero, List.getElem_cons_succ, List.setIfInBounds_toArray, List.set_cons_zero, List.set_cons_succ]
          refine wpAnyH_take (i := 9) (oi := _) (v := ?_) rfl (by kernel_rfl) (by kernel_rfl) (by kernel_rfl) (fun _ _ _ h => h) (Or.inl ⟨by rfl, ?_⟩) (by assumption) ?_
          rotate_left 1
          · (intro w hSw; (try dsimp only at hSw); (first | (go_simp; done) | (go_simp; with_reducible rfl)))
          try simp only [Act.put, List.getElem_toArray, List.getElem_cons_zero, List.getElem_cons_succ, List.setIfInBounds_toArray, List.set_cons_zero, List.set_cons_succ]
          refine wpAnyH_take (i := 10) (oi := _) (v := ?_) rfl (by kernel_rfl) (by kernel_rfl) (by kernel_rfl) (fun _ _ _ h => h) (Or.inl ⟨by rfl, ?_⟩) (by assumption) ?_
          rotate_left 1
          · (intro w hSw; (try dsimp only at hSw); (first | (go_simp; done) | (go_simp; with_reducible rfl)))
          try simp only [Act.put, List.getElem_toArray, List.getElem_cons_zero, List.getElem_cons_succ, List.setIfInBounds_toArray, List.set_cons_zero, List.set_cons_succ]
          refine wpAnyH_take (i := 11) (oi := _) (v := ?_) rfl (by kernel_rfl) (by kernel_rfl) (by kernel_rfl) (fun _ _ _ h => h) (Or.inl ⟨by rfl, ?_⟩) (by assumption) ?_
          rotate_left 1
          · (intro w hSw; (try dsimp only at hSw); (first | (go_simp; done) | (go_simp; with_reducible rfl)))
          try simp only [Act.put, List.getElem_toArray, List.getElem_cons_zero, List.getElem_cons_succ, List.setIfInBounds_toArray, List.set_cons_zero, List.set_cons_succ]
          refine wpAnyH_ready (rs := [8]) (by kernel_rfl) (by simp) ?_
          refine AllReadyH.cons (o := _) rfl (fun K hK => ?_) AllReadyH.nil
          go_simp
          (with_reducible refine Calls.mono (HNj.out w5.drew (belowDrew8 hB5)) ?_)
          rintro r wa ⟨vn, rfl, hrv, hba⟩
          have HRv := hide hrv
          have hBa : Below w.heap.size w wa := (belowDrew8 hB5).trans (hba.mono hB5.size)
          have HB5a := hide (show Below w5.heap.size w5 wa from ⟨hba.os, hba.tape, hba.output, hba.size, hba.block⟩)
          have fa0 := (hba.cell (p := ⟨w.heap.size, 0, none⟩) xl0).trans b0
          have fa1 := (hba.cell (p := ⟨ob, oo, none⟩) xl1).trans b1
          have xa0 : w.heap.size < wa.heap.size := Nat.lt_of_lt_of_le xl0 hba.size
          have xa1 : ob < wa.heap.size := Nat.lt_of_lt_of_le xl1 hba.size
          clear hba
          obtain ⟨na, nc, rfl, -⟩ := hrv.form
          clear hrv
          (try go_wp2_with fail)
          refine hK.out _ _ ⟨fa0, fa1⟩ (fun hHeld => ?_)
          clear hK K
          try simp only [Act.put, List.getElem_toArray, List.getElem_cons_zero, List.getElem_cons_succ, List.setIfInBounds_toArray, List.set_cons_zero, List.set_cons_succ]
          refine wpAnyH_ready (rs := [12]) (by kernel_rfl) (by simp) ?_
          refine AllReadyH.cons (o := _) rfl (fun K hK => ?_) AllReadyH.nil
          go_simp
          (with_reducible refine Calls.mono (HRj.out wa _ hBa HB5a.out HRv.out) ?_)
          rintro r wb ⟨rfl, hbb⟩
          have hBb : Below w.heap.size w wb := hBa.trans (hbb.mono hBa.size)
          have fb0 := (hbb.cell (p := ⟨w.heap.size, 0, none⟩) xa0).trans fa0
          have fb1 := (hbb.cell (p := ⟨ob, oo, none⟩) xa1).trans fa1
          have HXb := hide (HX5.out.below (HB5a.out.trans (hbb.mono HB5a.out.size)) xl0)
          have HYb := hide (HY5.out.below (HB5a.out.trans (hbb.mono HB5a.out.size)) yl0)
          clear hbb
          (try go_wp2_with fail)
          refine hK.out _ _ ⟨fb0, fb1⟩ (fun hHeld => ?_)
          clear hK K
          try simp only [Act.put, List.getElem_toArray, List.getElem_cons_zero, List.getElem_cons_succ, List.setIfInBounds_toArray, List.set_cons_zero, List.set_cons_succ]
          refine wpAnyH_take (i := 13) (oi := _) (v := ?_) rfl (by kernel_rfl) (by kernel_rfl) (by kernel_rfl) (fun _ _ _ h => h) (Or.inl ⟨by rfl, ?_⟩) (by assumption) ?_
          rotate_left 1
          · (intro w hSw; (try dsimp only at hSw); (first | (go_simp; done) | (go_simp; with_reducible rfl)))
          try simp only [Act.put, List.getElem_toArray, List.getElem_cons_zero, List.getElem_cons_succ, List.setIfInBounds_toArray, List.set_cons_zero, List.set_cons_succ]
          refine wpAnyH_done (by kernel_rfl) ?_ _
          refine NoPanic.normal ?_
          clear b0 b1 fa0 fa1 fb0 fb1 HRj HNj HRv
          cases T with
          | none =>
            have HR2 : Hid (B = (fstS gg D.length (D.length - (j + 1))).isSome) := hide (by rw [HRes.out, HSt.out]; rfl)
            clear HRes HSt
            simp only [Option.isSome_none]
            go_wp2_with fail
            go_roundw
            case rel => exact ⟨j + 1, by omega, by go_num, HR2, HXb.out, HYb.out, hBb⟩
            case measure => simp [intOf]; omega
          | some l =>
            have HR2 : Hid (true = B) := hide (by rw [HRes.out, HSt.out]; rfl)
            clear HRes HSt
            simp only [Option.isSome_some]
            go_wp2_with fail
            go_ret
            exact ⟨ret_bool8 HR2.out, hBb⟩
      · obtain rfl : j = D.length := by omega
        have HR2 : Hid (false = B) := hide (by rw [HRes.out, fstS_end]; rfl)
        clear HRes hX hY2
        go_wp2_with fail
        go_ret
        exact ⟨ret_bool8 HR2.out, hB⟩


theorem useful_all (D : List Int) (hd : goodD D = true) (da : Option Addr) (dc : Nat) : ∀ (f : Nat) (a : F) (R : List F) (va vR : Value) (w : World), mea a R < f → WR D a R → DRow w (.agg #[.slice da D.length dc]) D → RV w vR R → GT w (fun _ => True) a va → Cap va → Calls Try.prog 35 #[.agg #[.slice da D.length dc], vR, .agg #[va]] w fun e w' => e = .returned (.bool (wn D a R).isSome) ∧ Below w.heap.size w w' := by
  intro f
  induction f with
  | zero => intro a R va vR w h; exact absurd h (Nat.not_lt_zero _)
  | succ f ih =>
    intro a R va vR w hf hwr hD hV hG hC
    cases a with
    | nil => exact useful_nil D hd da dc _ R va vR w hD hV hG hC hwr rfl
    | cons x k r =>
      by_cases hc : x.kd = 1 ∧ R.any nam1 = false
      · exact useful_behind f D hd da dc _ R va vR w hD hV hG hC hwr ih hf rfl hc.1 hc.2
      · exact useful_cons f D hd da dc _ R va vR w hD hV hG hC hwr ih hf rfl hc
theorem l8Useful_any (D : List Int) (hd : goodD D = true) (da : Option Addr) (dc : Nat) (a : F) (R : List F) (va vR : Value) (w : World) (hD : DRow w (.agg #[.slice da D.length dc]) D) (hV : RV w vR R) (hG : GT w (fun _ => True) a va) (hC : Cap va) (hwr : WR D a R) :
    Calls Try.prog 35 #[.agg #[.slice da D.length dc], vR, .agg #[va]] w fun e w' => e = .returned (.bool (wn D a R).isSome) ∧ Below w.heap.size w w' := useful_all D hd da dc _ a R va vR w (Nat.lt_succ_self _) hwr hD hV hG hC
end Go.Proofs.Ytfepljcblajfpab.W

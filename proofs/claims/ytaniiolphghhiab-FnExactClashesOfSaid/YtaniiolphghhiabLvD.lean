/-
  Sets of names, further: without (slices.DeleteFunc with a closure that holds the other set). Conditions: names below 8.
-/
import Derived.Test.YtaniiolphghhiabLvC
namespace Go.Proofs.Ytaniiolphghhiab.W
open Go.ChangeShapes Go.WideShapes Go.ChangeAt Go.RowKit Go.Joins
set_option linter.unusedVariables false

theorem containsS_any (v : Value) (l : List Int) (x : Int) (w : World) (h : NV w v l) (hl : l.length ≤ 1048576) :
    Calls Try.prog 49 #[v, .int .i64 x] w fun e w' => e = .returned (.bool (l.contains x)) ∧ w' = w := by
  rcases h with ⟨rfl, rfl⟩ | ⟨g, o, c, rfl, h2, h3, h4⟩
  · first | exact Try.slices_Contains_int_empty_f49 none 0 x w | exact Try.slices_Contains_int_empty none 0 x w
  · first
      | (have := Try.slices_Contains_int_f49 g o l.length c l x w (Nat.le_refl _) (by omega) (fun j hj => by rw [h4 j hj]; simp [List.getD, hj])
         rw [List.take_length] at this
         exact this)
      | (have := Try.slices_Contains_int g o l.length c l x w (Nat.le_refl _) (by omega) (fun j hj => by rw [h4 j hj]; simp [List.getD, hj])
         rw [List.take_length] at this
         exact this)

/-- The closure of without, in whatever world holds the other set. -/
theorem wo1_any (X : Nat) (v2 : Value) (l2 : List Int) (x : Int) (W : World) (hX : W.cell? ⟨X, 0, none⟩ = some v2) (h2 : NV W v2 l2) (hl : l2.length ≤ 1048576) :
    FnGives Try.prog 48 #[.pointer (some ⟨X, 0, none⟩)] #[.int .i64 x] (.bool (l2.contains x)) W := by
  show Calls Try.prog 48 #[.int .i64 x, .pointer (some ⟨X, 0, none⟩)] W _
  have HC := hide (containsS_any v2 l2 x W h2 hl)
  obtain ⟨a2, c2, rfl, -⟩ := h2.form
  obtain ⟨n2, hn2⟩ : ∃ n2, n2 = l2.length := ⟨_, rfl⟩
  obtain ⟨r, hr⟩ : ∃ r, r = l2.contains x := ⟨_, rfl⟩
  rw [← hn2] at HC hX
  rw [← hr] at HC ⊢
  clear h2 hn2 hl hr
  go_enter Try.func48, Try.ntmps48
  go_wp2_with fail
  refine Calls.mono HC.out ?_
  rintro e w1 ⟨rfl, hw⟩
  obtain rfl := hw.symm
  go_wp2_with fail
  go_ret
  exact ⟨rfl, 0, rfl⟩

theorem woDel_nil (fv : Value) (w : World) :
    Calls Try.prog 46 #[.slice none 0 0, fv] w fun e w' => e = .returned (.slice none 0 0) ∧ w' = w := by
  have HC := hide (Try.slices_IndexFunc_empty (α := Int) none 0 fv w)
  go_enter Try.func46, Try.ntmps46
  go_wp2_with fail
  refine Calls.mono HC.out ?_
  rintro e w1 ⟨rfl, hw⟩
  obtain rfl := hw.symm
  go_wp2_with fail
  go_ret
  exact ⟨rfl, rfl⟩

/-- The names of the first that are not of the second. -/
def woL (a b : List Int) : List Int := lst (fun n => hb a n && !hb b n) 8
theorem woL_filter {a b : List Int} (ha : R8 a) : (a.filter fun x => !b.contains x) = woL a b := by
  refine r8_ext ⟨ha.1.filter _, fun x hx => ha.2 x (List.mem_filter.1 hx).1⟩ (lst_r8 _) (fun n hn => ?_)
  unfold woL
  rw [hb_lst, Bool.eq_iff_iff, hb_iff, List.mem_filter]
  simp [hn, hb]

set_option maxHeartbeats 2000000 in
/-- What DeleteFunc leaves of a row that is one's own. -/
theorem woDel_any (X g cap base : Nat) (v2 : Value) (l1 l2 : List Int) (w0 w : World) (hX : w0.cell? ⟨X, 0, none⟩ = some v2) (hXl : X < w0.heap.size) (h2 : NV w0 v2 l2) (hl2 : l2.length ≤ 1048576) (r1 : R8 l1) (hb' : Below w0.heap.size w0 w) (hbase : w0.heap.size ≤ base)
    (ho : w.ownsRow base 3 1 (.slice (some ⟨g, 0, none⟩) l1.length cap) l1.length (ic l1)) :
    Calls Try.prog 46 #[.slice (some ⟨g, 0, none⟩) l1.length cap, .func (.func 48) #[] #[.pointer (some ⟨X, 0, none⟩)]] w fun e w' => ∃ v', e = .returned v' ∧ NV w' v' (woL l1 l2) ∧ Below w0.heap.size w0 w' := by
  have eg : ∀ args w, (callFunc 48 args).run Try.prog w = .ok (.enter 48 args) w := enters_of Try.func48 (by kernel_rfl) rfl
  obtain ⟨g', cap', e, hg1, hg2, hnc, hcm, -, hH⟩ := Lib.holds_of_ownsRow (enc := Value.int .i64) ho (by simp)
  injection e with e1 _ e3
  injection e1 with e1
  injection e1 with e1
  subst e1; subst e3
  have hrow : ∀ (n : Nat) (os : Array Obj) (dk : Array Int), Below w0.heap.size w0 (Sort.grow (Sort.putRow (Value.int .i64) (Sort.ahead w n) g 0 dk) os) := fun n os dk => hb'.grown (grownBy_sortedI _) hb'.size (fun j hj => by cases hj; omega)
  have hp : PredAt Try.prog 48 #[.pointer (some ⟨X, 0, none⟩)] (Value.int .i64) (fun x => l2.contains x) w := fun W x hW =>
    wo1_any X v2 l2 x W ((((hb'.trans (hW.mono hb'.size)).cell (p := ⟨X, 0, none⟩) hXl)).trans hX) (h2.below (hb'.trans (hW.mono hb'.size))) hl2
  have hpo : PredOver Try.prog 48 #[.pointer (some ⟨X, 0, none⟩)] (Value.int .i64) (fun x => l2.contains x) g 0 l1.toArray.size w := fun n os dk x _ =>
    wo1_any X v2 l2 x _ (((hrow n os dk).cell (p := ⟨X, 0, none⟩) hXl).trans hX) (h2.below (hrow n os dk)) hl2
  have h := Try.slices_DeleteFunc (Value.int .i64) (fun _ => rfl) (fun x => l2.contains x) 48 #[.pointer (some ⟨X, 0, none⟩)] eg 0 Try.zeroValue3 g 0 cap l1.toArray w hp hpo hH (by have := r8_len r1; simp; omega) (by simpa using hnc)
  rw [woL_filter r1] at h
  simp only [List.size_toArray] at h
  refine h.mono ?_
  rintro e w' ⟨rfl, q, rfl⟩
  have hle : (woL l1 l2).length ≤ l1.length := by rw [← woL_filter r1]; exact List.length_filter_le _ _
  have h1 := Lib.ownsRow_putRow (q := q) (k := (woL l1 l2).length) (ys := woL l1 l2 ++ List.replicate (l1.length - (woL l1 l2).length) 0) ho (by simp; omega) hle
  rw [List.take_left] at h1
  exact ⟨_, rfl, NV.ofOwn h1 rfl, Lib.below_putRow hb' (by omega)⟩

set_option maxHeartbeats 2000000 in
theorem without_any (v1 v2 : Value) (l1 l2 : List Int) (w : World) (h1 : NV w v1 l1) (h2 : NV w v2 l2) (r1 : R8 l1) (r2 : R8 l2) :
    Calls Try.prog 23 #[v1, v2] w fun e w' => ∃ v', e = .returned v' ∧ NV w' v' (woL l1 l2) ∧ Below w.heap.size w w' := by
  have k1 := r8_len r1
  have k2 := r8_len r2
  have hb0 : Below w.heap.size w (w.alloc (.cells #[v2] 51)) := (Below.refl _ _).alloc (Nat.le_refl _) _
  have HX := hide (Bx.new w #[v2] 51)
  have HC := hide (cloneS_any v1 l1 _ (h1.below hb0) (by omega))
  have HD := hide (fun (g cap : Nat) (w' : World) (hb' : Below (w.alloc (.cells #[v2] 51)).heap.size (w.alloc (.cells #[v2] 51)) w') ho => woDel_any w.heap.size g cap (w.alloc (.cells #[v2] 51)).heap.size v2 l1 l2 (w.alloc (.cells #[v2] 51)) w' ((Bx.new w #[v2] 51).c 0) (Bx.new w #[v2] 51).lt (h2.below hb0) (by omega) r1 hb' (Nat.le_refl _) ho)
  have HN : Hid (l1 = [] → woL l1 l2 = []) := hide (fun e => by subst e; simp [woL, hb]; exact lst_none)
  obtain ⟨a1, c1, rfl, -⟩ := h1.form
  obtain ⟨a2, c2, rfl, -⟩ := h2.form
  obtain ⟨n1, hn1⟩ : ∃ n1, n1 = l1.length := ⟨_, rfl⟩
  obtain ⟨n2, hn2⟩ : ∃ n2, n2 = l2.length := ⟨_, rfl⟩
  rw [← hn1] at HC HD ⊢
  rw [← hn2] at HC HD HX hb0 ⊢
  have HN1 := hide hn1
  clear h1 h2 r1 r2 k1 k2 hn1 hn2
  go_enter Try.func23, Try.ntmps23
  go_upto_region 1 with fail
  obtain ⟨X, hX⟩ : ∃ X, X = w.heap.size := ⟨_, rfl⟩
  rw [← hX] at HX HD ⊢
  obtain ⟨W1, hW1⟩ : ∃ W1, W1 = w.alloc (.cells #[.slice a2 n2 c2] 51) := ⟨_, rfl⟩
  rw [← hW1] at HX HD HC hb0 ⊢
  clear hW1
  have HXe := hide hX
  clear hX
  go_wp2_with fail
  refine Calls.mono HC.out ?_
  rintro e w1 ⟨v', rfl, ho, hz, hb1⟩
  have HB := hide (hb0.trans (hb1.mono hb0.size))
  have HB1 := hide hb1
  rcases hz with ⟨rfl, rfl⟩ | hz
  · clear HC ho hb1 hb0
    go_wp2_with fail
    refine Calls.mono (woDel_nil _ _) ?_
    rintro e w2 ⟨rfl, hw⟩
    obtain rfl := hw.symm
    go_wp2_with fail
    go_ret
    exact ⟨_, rfl, .inl ⟨rfl, by have := HN.out; simpa using this⟩, HB.out⟩
  · obtain ⟨g, cap, rfl, -⟩ := Lib.holds_of_ownsRow (enc := Value.int .i64) ho hz
    have HO := hide ho
    have Hb0 := hide hb0
    clear HC ho hb1 hz hb0
    go_wp2_with fail
    refine Calls.mono (HD.out g cap w1 HB1.out HO.out) ?_
    rintro e w2 ⟨v', rfl, hv, hb2⟩
    have HV := hide hv
    obtain ⟨va, vc, rfl, -⟩ := hv.form
    have HB2 := hide (Hb0.out.trans (hb2.mono Hb0.out.size))
    clear hv hb2 HD HO HB1 Hb0
    go_wp2_with fail
    go_ret
    exact ⟨_, rfl, HV.out, HB2.out⟩
end Go.Proofs.Ytaniiolphghhiab.W

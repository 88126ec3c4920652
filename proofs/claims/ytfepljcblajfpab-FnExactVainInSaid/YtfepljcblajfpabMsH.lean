/-
  A cell put ahead of a row of one's own: a contract of putAhead; how long what is found can be; how many rows can be come to. Conditions: at most 100000 cells.
-/
import Derived.Test.YtfepljcblajfpabMsG
namespace Go.Proofs.Ytfepljcblajfpab.W
open Go.ChangeShapes Go.WideShapes Go.ChangeAt Go.RowKit
set_option linter.unusedVariables false
set_option linter.unusedSimpArgs false

theorem insert_any (v : Value) (base xb : Nat) (x : Pt) (l : List Pt) (w : World) (hb : base ≤ w.heap.size) (hl : l.length ≤ 100000) (h : w.ownsRow base 67 2 v l.length (rcells 2 Pt.c l)) (hx : Bx w xb #[.int .i64 x.kd, .int .i64 x.con] 67) (hne : ∀ k, v.ownBlock = some k → xb ≠ k) :
    Calls Try.prog 58 #[v, .int .i64 0, .slice (some ⟨xb, 0, none⟩) 1 1] w (InOut w base v x l) := by
  by_cases h0 : l = []
  · subst h0
    exact insert_nil v base xb x w hb h hx
  · obtain ⟨-, ⟨h1, h2⟩ | ⟨g, cap, cur, rfl, hg, hh, h2, h3, h4, h5⟩⟩ := h
    · exact absurd (List.eq_nil_of_length_eq_zero h2) h0
    · by_cases hr : l.length + 1 ≤ cap
      · exact insert_room base g cap xb cur x l w hg h0 hl hr h3 hh h4 h5 hx (hne g rfl)
      · exact insert_grow base g cap xb cur x l w hb h0 hl h2 (by omega) hh h5 hx

set_option maxRecDepth 20000 in
set_option maxHeartbeats 2000000 in
theorem putAhead_any (v : Value) (base : Nat) (x : Pt) (l : List Pt) (w : World) (hb : base ≤ w.heap.size) (hl : l.length ≤ 100000) (h : w.ownsRow base 67 2 v l.length (rcells 2 Pt.c l)) :
    Calls Try.prog 46 #[x.v, v, .bool true] w fun e w' => ∃ v', e = .returned (.tuple #[v', .bool true]) ∧ w'.ownsRow base 67 2 v' (l.length + 1) (rcells 2 Pt.c (x :: l)) ∧ w.grownBy w' v.ownBlock := by
  have hx : Bx ((w.alloc (.cells #[.int .i64 x.kd, .int .i64 x.con] 67)).alloc (.cells #[.int .i64 x.kd, .int .i64 x.con] 67)) (w.heap.size + 1) #[.int .i64 x.kd, .int .i64 x.con] 67 := by
    have := Bx.new (w.alloc (.cells #[.int .i64 x.kd, .int .i64 x.con] 67)) #[.int .i64 x.kd, .int .i64 x.con] 67
    simpa using this
  have HC := hide (insert_any v base (w.heap.size + 1) x l _ (by simp; omega) hl ((h.alloc _).alloc _) hx (fun k hk => by have := (h.lt k hk).2; omega))
  obtain ⟨ad, c, rfl⟩ := own_form h
  obtain ⟨N, hN⟩ : ∃ N, N = l.length := ⟨_, rfl⟩
  have HB : Hid (∀ w', ((w.alloc (.cells #[.int .i64 x.kd, .int .i64 x.con] 67)).alloc (.cells #[.int .i64 x.kd, .int .i64 x.con] 67)).grownBy w' (Value.slice ad l.length c).ownBlock → w.grownBy w' (Value.slice ad l.length c).ownBlock) := hide (fun w' hg => ⟨hg.os, hg.tape, hg.output, by have := hg.size; simp at this; omega, fun k hk hkn => by
    rw [hg.block k (by simp; omega) hkn, heap_alloc_old _ _ (by simp; omega), heap_alloc_old _ _ hk]⟩)
  rw [← hN] at HC HB ⊢
  have HN := hide hN
  clear hx h hN hl
  go_enter Try.func46, Try.ntmps46
  go_wp2_with fail
  refine Calls.mono HC.out ?_
  rintro e w1 ⟨v', rfl, ho, hg⟩
  rw [← HN.out] at ho
  have HO := hide ho
  have HG := hide (HB.out w1 hg)
  obtain ⟨ad1, c1, rfl⟩ := own_form ho
  clear ho hg HC HB
  go_wp2_with fail
  exact bodyPost_ret (v := .tuple #[.slice ad1 (N + 1) c1, .bool true]) (by simp [results, Try.results46, go_sem]) rfl ⟨_, rfl, HO.out, HG.out⟩

set_option maxHeartbeats 1000000 in
theorem putAhead_no (v : Value) (x : Pt) (w : World) (hv : ∃ a n c, v = .slice a n c) :
    Calls Try.prog 46 #[x.v, v, .bool false] w fun e w' => e = .returned (.tuple #[.slice none 0 0, .bool false]) ∧ Below w.heap.size w w' := by
  obtain ⟨a, n, c, rfl⟩ := hv
  have HB := hide (show Below w.heap.size w (w.alloc (.cells #[.int .i64 x.kd, .int .i64 x.con] 67)) from (Below.refl _ _).alloc (Nat.le_refl _) _)
  go_enter Try.func46, Try.ntmps46
  go_wp2_with fail
  exact bodyPost_ret (v := .tuple #[.slice none 0 0, .bool false]) (by simp [results, Try.results46, go_sem]) rfl ⟨rfl, HB.out⟩

theorem fstS_some (g : Nat → Option (List Pt)) (n : Nat) (l : List Pt) : ∀ m, fstS g n m = some l → ∃ c, g c = some l
  | 0, h => by simp [fstS] at h
  | m + 1, h => by
    rw [fstS] at h
    cases hg : g (n - (m + 1)) with
    | some l' => rw [hg] at h; simp only [Option.some.injEq] at h; subst h; exact ⟨_, hg⟩
    | none => rw [hg] at h; exact fstS_some g n l m h
/-- How long what is found can be. -/
theorem win_len {D : List Int} (hd : goodD D = true) (f : Nat) : ∀ (a : F) (R : List F) (l : List Pt), WR D a R → win D f a R = some l → l.length ≤ a.flat.length + 2 * (pof a + pofs R) := by
  induction f with
  | zero => intro a R l _ h; simp [win] at h
  | succ f ih =>
    intro a R l hw h
    cases R with
    | nil => simp [win] at h; subst h; omega
    | cons b R' =>
      cases a with
      | nil => simp [win] at h
      | cons x k r =>
        rw [win] at h
        by_cases hc : x.kd = 1 ∧ (b :: R').any nam1 = false
        · rw [if_pos hc] at h
          obtain ⟨l', h1, rfl⟩ := Option.map_eq_some_iff.1 h
          obtain ⟨w1, -⟩ := hw.tl (by simp [F.len]) (by simp [nam1]; omega) hc.2
          have h2 := ih _ _ _ w1 h1
          obtain ⟨f1, f2, f3, f4, -⟩ := tl_facts hw.ok (by simp [F.len]) (show nam1 (.cons x k r) = false by simp [nam1]; omega)
          have h5 := tls_pof (R := b :: R') (fun b0 hb0 => ⟨(hw.oks b0 hb0).1, by rw [(hw.oks b0 hb0).2]; simp [F.len]⟩) hc.2
          simp only [List.length_cons]
          omega
        · rw [if_neg hc] at h
          have hn : nam1 (.cons x k r) = true ∨ (b :: R').any nam1 = true := by
            by_cases hx : x.kd = 2
            · exact .inl (by simp [nam1, hx])
            · have h1 : x.kd = 1 := by rcases good_kd hw.ok.1 with g | g <;> omega
              right
              rw [← Bool.not_eq_false]
              exact fun h => hc ⟨h1, h⟩
          have key : ∀ c l, (match opn D c (.cons x k r) with
              | none => none
              | some a' => (win D f a' ((b :: R').filterMap (opn D c))).map ((⟨2, (c : Int)⟩ : Pt) :: ·)) = some l → l.length ≤ (F.cons x k r).flat.length + 2 * (pof (.cons x k r) + pofs (b :: R')) := by
            intro c l hl
            cases ho : opn D c (.cons x k r) with
            | none => rw [ho] at hl; cases hl
            | some a' =>
              rw [ho] at hl
              obtain ⟨l', h1, rfl⟩ := Option.map_eq_some_iff.1 hl
              obtain ⟨w1, -⟩ := WR.opn hd hw ho hn
              have h2 := ih _ _ _ w1 h1
              obtain ⟨g1, g2, g3, g4, g5⟩ := opn_facts hw.ok ho
              have hp := opns_pof (c := c) (R := b :: R') (fun b0 hb0 => (hw.oks b0 hb0).1)
              have hnp := nP_le hd c
              have hlt : pof a' + pofs ((b :: R').filterMap (opn D c)) + 1 ≤ pof (.cons x k r) + pofs (b :: R') := by
                rcases hn with hn | hn
                · have := (g5 hn).1; omega
                · have := hp.2 hn; omega
              simp only [List.length_cons]
              omega
          obtain ⟨c, hcc⟩ := fstS_some _ _ _ _ h
          exact key c l hcc
theorem wn_len {D : List Int} (hd : goodD D = true) {a : F} {R : List F} {l : List Pt} (hw : WR D a R) (h : wn D a R = some l) : l.length ≤ 3000 := by
  have h1 := win_len hd _ a R l hw h
  have := hw.big
  omega
end Go.Proofs.Ytfepljcblajfpab.W

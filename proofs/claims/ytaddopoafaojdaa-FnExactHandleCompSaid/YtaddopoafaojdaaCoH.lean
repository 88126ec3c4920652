/-
  A computation with others in the place of each number told, by the program: the contract of followedBy. Conditions: at most 60 cells, and what is put there has a cell at least and 1048576 at most.
-/
import Derived.Test.YtaddopoafaojdaaCoW
import Derived.Test.YtaddopoafaojdaaCoZ
namespace Go.Proofs.Ytaddopoafaojdaa.C
open Go.Proofs.Ytaddopoafaojdaa.W
open Go.ChangeShapes Go.WideShapes Go.ChangeAt Go.RowKit
set_option linter.unusedVariables false

/-- What one cell becomes. -/
def fo1 (nx : Int → List Cc) (x : Cc) : List Cc := if x.k = 1 then nx x.n else [x]
/-- What a row of cells becomes. -/
def fol (nx : Int → List Cc) : List Cc → List Cc
  | [] => []
  | x :: r => fo1 nx x ++ fol nx r
theorem fol_app (nx : Int → List Cc) : ∀ a b : List Cc, fol nx (a ++ b) = fol nx a ++ fol nx b
  | [], b => rfl
  | x :: a, b => by show fo1 nx x ++ fol nx (a ++ b) = (fo1 nx x ++ fol nx a) ++ fol nx b; rw [fol_app nx a b, List.append_assoc]
theorem fol_succ (nx : Int → List Cc) {l : List Cc} {j : Nat} (h : j < l.length) : fol nx (l.take (j + 1)) = fol nx (l.take j) ++ fo1 nx l[j] := by
  rw [List.take_succ_eq_append_getElem h, fol_app]
  show _ ++ (fo1 nx l[j] ++ []) = _
  rw [List.append_nil]
theorem fol_le (nx : Int → List Cc) (l : List Cc) (j : Nat) : (fol nx (l.take j)).length ≤ (fol nx l).length := by
  have h : fol nx l = fol nx (l.take j) ++ fol nx (l.drop j) := by rw [← fol_app, List.take_append_drop]
  rw [h, List.length_append]
  omega
/-- What followedBy tells. -/
def folL (nx : Int → List Cc) (l : List Cc) : List Cc := if (fol nx l).length ≤ 60 then fol nx l else []
/-- The answer: a row of one's own, and a truth. -/
def RU2 (w : World) (L : List Cc) (b : Bool) (e : Ending) (w' : World) : Prop := ∃ v, e = .returned (.tuple #[v, .bool b]) ∧ w'.ownsRow w.heap.size 52 2 v L.length (cv L) ∧ Below w.heap.size w w'
theorem row_some2 {w : World} {ad : Option Addr} {l : List Cc} (h : CRow w ad l) (hl : 0 < l.length) : ∃ b o, ad = some ⟨b, o, none⟩ := by
  rcases h with rfl | ⟨b, o, h, -⟩
  · simp at hl
  · exact ⟨b, o, h⟩

/-- What is handed as 'next'. -/
def Nx_both (p : Value) (nx : Int → List Cc) (w : World) : Prop := ∀ (n : Int) (w1 : World), 0 ≤ n → n ≤ 99 → Below w.heap.size w w1 →
    Calls Try.prog 60 #[.int .i64 n, p] w1 fun e w2 => ∃ (a : Option Addr) (k : Nat), e = .returned (.slice a (nx n).length k) ∧ CRow w2 a (nx n) ∧ Below w1.heap.size w1 w2

set_option maxRecDepth 20000 in
set_option maxHeartbeats 4000000 in
theorem followed_both (ad : Option Addr) (c : Nat) (l : List Cc) (p : Value) (nx : Int → List Cc) (w : World) (hl : l.length ≤ 60) (h : CRow w ad l) (hok : tellOk l) (hnx : ∀ n, 0 ≤ n → n ≤ 99 → 0 < (nx n).length ∧ (nx n).length ≤ 1000000) (hN : Nx_both p nx w) :
    Calls Try.prog 59 #[.slice ad l.length c, .func (.func 60) #[] #[p]] w (RU2 w (folL nx l) (decide ((fol nx l).length ≤ 60))) := by
  unfold RU2 folL
  have HR := hide h
  have HN := hide hN
  have HX := hide hnx
  have HK := hide hok
  obtain ⟨i0, hi0, hz0, hz1, hz2⟩ := infoPartsT infoCe
  have Hi := hide hi0
  clear hi0 h hN hnx hok
  go_enter Try.func59, Try.ntmps59
  go_wp2_with fail
  go_loopw [6, 11] (fun v i w' => ∃ j : Nat, j ≤ l.length ∧ i = .int .i64 j ∧ w'.ownsRow w.heap.size 52 2 v (fol nx (l.take j)).length (cv (fol nx (l.take j))) ∧ Below w.heap.size w w' ∧ (fol nx (l.take j)).length ≤ 60) (fun _ i _ => l.length - (intOf i).toNat)
  case atStart => exact ⟨0, by omega, rfl, World.ownsRow_nil _ _ _ _, Below.refl _ _, by simp [fol]⟩
  case round =>
    obtain ⟨j, hj, rfl, ho, hB, h60⟩ := hrel
    have HO := hide ho
    obtain ⟨oad, oc, rfl⟩ := iOwn_form ho
    have hw1 : ∀ k, (Value.slice oad (fol nx (l.take j)).length oc).ownBlock = some k → w.heap.size ≤ k ∧ k < wr.heap.size := fun k hk => ho.lt k hk
    clear ho
    have hbs := hB.size
    by_cases hlt : j < l.length
    · have hlt' : (j : Int) < (l.length : Int) := by omega
      obtain ⟨b, o, rfl, hb, p0, p1⟩ := HR.out.tok hB hlt
      have HE : Hid (fol nx (l.take (j + 1)) = fol nx (l.take j) ++ fo1 nx l[j]) := hide (fol_succ nx hlt)
      have hle := fol_le nx l (j + 1)
      have HT := hide (HK.out l[j] (List.getElem_mem hlt))
      obtain ⟨x, hx⟩ : ∃ x, x = l[j] := ⟨_, rfl⟩
      rw [← hx] at p0 p1 HE HT
      clear hx
      rw [HE.out] at hle
      obtain ⟨OL, hOL⟩ : ∃ OL, OL = fol nx (l.take j) := ⟨_, rfl⟩
      rw [← hOL] at HO HE h60 hw1 hle ⊢
      clear hOL
      obtain ⟨AL, hAL⟩ : ∃ AL, AL = (fol nx l).length := ⟨_, rfl⟩
      rw [← hAL] at hle
      have HAL := hide hAL
      clear hAL
      obtain ⟨ON, hON⟩ : ∃ ON, ON = OL.length := ⟨_, rfl⟩
      rw [List.length_append, ← hON] at hle
      rw [← hON] at HO h60 hw1 ⊢
      have HON := hide hON
      clear hON
      obtain ⟨xk, xn⟩ := x
      simp only at p0 p1 HT
      by_cases hk : xk = 1
      · subst hk
        obtain ⟨t0, t1⟩ := HT.out rfl
        have HF : Hid (fo1 nx ⟨1, xn⟩ = nx xn) := hide rfl
        rw [HF.out] at HE hle
        obtain ⟨y0, y1⟩ := HX.out xn t0 t1
        have HBc : Hid (Below w.heap.size w (wr.alloc (.cells #[.int .i64 1, .int .i64 xn] 52))) := hide (hB.alloc hB.size _)
        have HC := hide (HN.out xn _ t0 t1 HBc.out)
        obtain ⟨Y, hY⟩ : ∃ Y, Y = nx xn := ⟨_, rfl⟩
        rw [← hY] at HC HE hle y0 y1
        obtain ⟨YN, hYN⟩ : ∃ YN, YN = Y.length := ⟨_, rfl⟩
        rw [← hYN] at HC hle y0 y1
        have HYN := hide hYN
        clear hY hYN HF
        have M1 : Hid (ON + YN ≤ maxLen) := hide (by unfold maxLen; omega)
        go_wp2_with fail
        (with_reducible refine Calls.mono HC.out ?_)
        rintro e w2 ⟨a, k, rfl, hc, hb2⟩
        obtain ⟨gb, go', rfl⟩ := row_some2 hc (by rw [← HYN.out]; exact y0)
        have HNw := hide hc.news
        have HO2 := hide (tOwn_keep (HO.out.alloc (.cells #[.int .i64 1, .int .i64 xn] 52)) (fun k _ hk => hb2.block k hk))
        have HB2 : Hid (Below w.heap.size w w2) := hide (HBc.out.trans (hb2.mono HBc.out.size))
        have hs2 : w.heap.size ≤ w2.heap.size := HB2.out.size
        have HCl : Hid ((cv Y).length = YN * 2) := hide (by rw [cv_len, ← HYN.out])
        have HC1 := hide (cv_one Y)
        clear hc hb2 HC p0 p1 HBc HO
        go_wp2_with (at_builtin; refine wpList_append_own _ rfl _ _ 28 rfl w.heap.size 52 i0 (.agg #[.int .i64 0, .int .i64 0]) 2 16 Try.underlying28 Hi.out hz0 hz1 hz2 rfl (by decide) _ ON (cv OL) rfl HO2.out ⟨gb, go', none⟩ YN k (cv Y) rfl HCl.out HNw.out HC1.out M1.out (by omega) hs2 ?_)
        intro v1 w3 hown1 hgrow1 _
        obtain ⟨ad1, c1, rfl⟩ := iOwn_form hown1
        have HO3 := hide hown1
        have HB3 : Hid (Below w.heap.size w w3) := hide (HB2.out.grown hgrow1 hs2 (fun k hk => (HO2.out.lt k hk).1))
        clear hown1 hgrow1 HO2 HB2 HNw HCl HC1
        by_cases hbig : ON + YN ≤ 60
        · have hbig' : ¬ (60 : Int) < ((ON + YN : Nat) : Int) := by omega
          have hbig2 : ¬ (60 : Int) < (ON : Int) + (YN : Int) := by omega
          go_wp2_with fail
          refine ⟨⟨j + 1, by omega, by go_num, ?_, HB3.out, ?_⟩, by simp [intOf]; omega⟩
          · have := HO3.out
            rw [HE.out, cv_app, List.length_append, ← HON.out, ← HYN.out]
            exact this
          · rw [HE.out, List.length_append, ← HON.out, ← HYN.out]; exact hbig
        · have hbig' : (60 : Int) < ((ON + YN : Nat) : Int) := by omega
          have hbig2 : (60 : Int) < (ON : Int) + (YN : Int) := by omega
          have HNo : Hid (¬ (fol nx l).length ≤ 60) := hide (by rw [← HAL.out]; omega)
          go_wp2_with fail
          exact bodyPost_ret (v := .tuple #[.slice none 0 0, .bool false]) (by simp [results, Try.results59, go_sem]) rfl ⟨.slice none 0 0, rfl, World.ownsRow_nil _ _ _ _, HB3.out⟩
      · have HF : Hid (fo1 nx ⟨xk, xn⟩ = [⟨xk, xn⟩]) := hide (by unfold fo1; rw [if_neg hk])
        rw [HF.out] at HE hle
        have hle1 : ON + 1 ≤ AL := hle
        clear HF hle
        have M1 : Hid (ON + 1 ≤ maxLen) := hide (by unfold maxLen; omega)
        have HNw : Hid (∀ j u, [Value.int .i64 xk, .int .i64 xn][j]? = some u → ((wr.alloc (.cells #[.int .i64 xk, .int .i64 xn] 52)).alloc (.cells #[.int .i64 xk, .int .i64 xn] 52)).cell? ((⟨wr.heap.size + 1, 0, none⟩ : Addr).add j) = some u) := hide (c2_news (by
          have := heap_alloc_new (wr.alloc (.cells #[.int .i64 xk, .int .i64 xn] 52)) (.cells #[.int .i64 xk, .int .i64 xn] 52); simpa using this))
        go_wp2_with (at_builtin; refine wpList_append_own _ rfl _ _ 28 rfl w.heap.size 52 i0 (.agg #[.int .i64 0, .int .i64 0]) 2 16 Try.underlying28 Hi.out hz0 hz1 hz2 rfl (by decide) _ ON (cv OL) rfl ((HO.out.alloc _).alloc _) ⟨wr.heap.size + 1, 0, none⟩ 1 1 [.int .i64 xk, .int .i64 xn] rfl rfl HNw.out (c2_one xk xn) M1.out (by omega) (by simp; omega) ?_)
        intro v1 w3 hown1 hgrow1 _
        obtain ⟨ad1, c1, rfl⟩ := iOwn_form hown1
        have HO3 := hide hown1
        have HB3 : Hid (Below w.heap.size w w3) := hide (((hB.alloc hB.size _).alloc (by simp; omega) _).grown hgrow1 (by simp; omega) (fun k hk => (hw1 k hk).1))
        clear hown1 hgrow1 HNw p0 p1
        by_cases hbig : ON + 1 ≤ 60
        · have hbig' : ¬ (60 : Int) < ((ON + 1 : Nat) : Int) := by omega
          have hbig2 : ¬ (60 : Int) < (ON : Int) + 1 := by omega
          go_wp2_with fail
          refine ⟨⟨j + 1, by omega, by go_num, ?_, HB3.out, ?_⟩, by simp [intOf]; omega⟩
          · have := HO3.out
            rw [HE.out, cv_app, List.length_append, ← HON.out]
            exact this
          · rw [HE.out, List.length_append, ← HON.out]; exact hbig
        · have hbig' : (60 : Int) < ((ON + 1 : Nat) : Int) := by omega
          have hbig2 : (60 : Int) < (ON : Int) + 1 := by omega
          have HNo : Hid (¬ (fol nx l).length ≤ 60) := hide (by rw [← HAL.out]; omega)
          go_wp2_with fail
          exact bodyPost_ret (v := .tuple #[.slice none 0 0, .bool false]) (by simp [results, Try.results59, go_sem]) rfl ⟨.slice none 0 0, rfl, World.ownsRow_nil _ _ _ _, HB3.out⟩
    · obtain rfl : j = l.length := by omega
      rw [List.take_length] at HO h60 ⊢
      obtain ⟨ON, hON⟩ : ∃ ON, ON = (fol nx l).length := ⟨_, rfl⟩
      rw [← hON] at HO ⊢
      have HON := hide hON
      have H6 := hide h60
      clear hON hw1 h60
      go_wp2_with fail
      exact bodyPost_ret (v := .tuple #[.slice oad ON oc, .bool true]) (by simp [results, Try.results59, go_sem]) rfl ⟨.slice oad ON oc, (by first | rfl | rw [decide_eq_true H6.out]), (by first | exact HO.out | (rw [← HON.out]; exact HO.out) | (rw [if_pos H6.out, ← HON.out]; exact HO.out)), hB⟩

end Go.Proofs.Ytaddopoafaojdaa.C

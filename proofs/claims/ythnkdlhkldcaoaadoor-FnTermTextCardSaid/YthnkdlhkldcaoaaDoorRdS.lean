/-
  Words cut at blanks: contracts of l3Split and of strings.Split at a blank. Conditions: at most 2000 bytes; the library's variable that strings.Split reads holds a number.
-/
import Derived.Test.YthnkdlhkldcaoaaDoorRdI
import Derived.Test.YthnkdlhkldcaoaaDoorRdK
namespace Go.Proofs.YthnkdlhkldcaoaaDoor.W
open Go.ChangeShapes Go.WideShapes Go.ChangeAt Go.RowKit
set_option linter.unusedVariables false

/-- A word as a value. -/
def sv (l : List UInt8) : Value := .string ⟨l.toArray⟩
/-- A row of words that is read. -/
def StR (w : World) (v : Value) (ws : List (List UInt8)) : Prop :=
  ∃ b o c, v = .slice (some ⟨b, o, none⟩) ws.length c ∧ b < w.heap.size ∧ ∀ i (h : i < ws.length), w.cell? ⟨b, o + i, none⟩ = some (sv ws[i])
theorem StR.at {w w' : World} {v : Value} {ws : List (List UInt8)} (h : StR w v ws) (hb : Below w.heap.size w w') : StR w' v ws := by
  obtain ⟨b, o, c, h1, h2, h3⟩ := h
  exact ⟨b, o, c, h1, Nat.lt_of_lt_of_le h2 hb.size, fun i hi => (hb.cell (p := ⟨b, o + i, none⟩) h2).trans (h3 i hi)⟩
theorem cut_step {L : List UInt8} {f i : Nat} (hfi : f ≤ i) (hi : L[i]? = some 32) (hn : ∀ k, f ≤ k → k < i → L[k]? ≠ some 32) : cutL (L.drop f) = ((L.drop f).take (i - f)) :: cutL (L.drop (i + 1)) := by
  obtain ⟨hil, hie⟩ := List.getElem?_eq_some_iff.1 hi
  have e : L.drop f = (L.drop f).take (i - f) ++ 32 :: L.drop (i + 1) := by
    have h1 : (L.drop f).drop (i - f) = 32 :: L.drop (i + 1) := by
      rw [List.drop_drop, show f + (i - f) = i by omega, ← hie]
      exact List.drop_eq_getElem_cons hil
    rw [← h1, List.take_append_drop]
  have hf : ∀ b ∈ (L.drop f).take (i - f), b ≠ 32 := by
    intro b hb e
    obtain ⟨j, hj, hje⟩ := List.getElem_of_mem hb
    have hj' : j < i - f ∧ f + j < L.length := by simp at hj; omega
    refine hn (f + j) (by omega) (by omega) ?_
    rw [List.getElem_take, List.getElem_drop] at hje
    rw [List.getElem?_eq_getElem hj'.2, hje, e]
  conv => lhs; rw [e]
  exact cutL_app _ _ hf
theorem cut_last {L : List UInt8} {f : Nat} (hn : ∀ k, f ≤ k → k < L.length → L[k]? ≠ some 32) : cutL (L.drop f) = [L.drop f] := by
  refine cutL_one _ (fun b hb e => ?_)
  obtain ⟨j, hj, hje⟩ := List.getElem_of_mem hb
  have hj' : f + j < L.length := by simp at hj; omega
  refine hn (f + j) (by omega) hj' ?_
  rw [List.getElem_drop] at hje
  rw [List.getElem?_eq_getElem hj', hje, e]
theorem cutL_len : ∀ l : List UInt8, 1 ≤ (cutL l).length ∧ (cutL l).length ≤ l.length + 1
  | [] => by simp [cutL]
  | b :: l => by
    have ih := cutL_len l
    unfold cutL
    split
    · simp; omega
    · cases h : cutL l with
      | nil => simp
      | cons w ws => rw [h] at ih; simp at ih ⊢; omega
theorem infoStrg : (Tryd.prog.info? 9).map (fun i => (i.zero, i.size, i.bytes)) = some (some (.string ⟨#[]⟩), 1, 16) := by kernel_rfl
theorem ex_sv (s : ByteArray) (f i : Nat) (h : i ≤ s.size) : (Value.string (s.extract f i)) = sv ((s.data.toList.drop f).take (i - f)) := by
  unfold sv
  congr 1
  apply ba_ext
  rw [Lib.extract_data]
theorem new_str {w : World} {g : Nat} {v : Value} {t : TypeId} (h : w.heap[g]? = some (.cells #[v] t (0, 0))) : ∀ j x, [v][j]? = some x → w.cell? ((⟨g, 0, none⟩ : Addr).add j) = some x := by
  intro j x hx
  rw [iAdd, Nat.zero_add, cell_of_blk h, ← hx]
  simp

set_option maxRecDepth 20000 in
set_option maxHeartbeats 4000000 in
theorem l3Split_any (s : ByteArray) (w : World) (hs : s.size ≤ 2000) :
    Calls Tryd.prog 15 #[.string s, .int .u8 32] w fun e w' => ∃ v, e = .returned v ∧ StR w' v (cutL s.data.toList) ∧ Below w.heap.size w w' := by
  obtain ⟨L, hL⟩ : ∃ L, L = s.data.toList := ⟨_, rfl⟩
  rw [← hL]
  have hLl : L.length = s.size := by rw [hL]; simp
  have HLn := hide hLl
  have HL := hide hL
  obtain ⟨i0, hi0, hz0, hz1, hz2⟩ := infoPartsT infoStrg
  have Hi := hide hi0
  clear hL hLl hi0
  go_enter Tryd.func15, Tryd.ntmps15
  go_wp2_with fail
  go_loopw [5, 6, 7] (fun v5 v6 v7 w' => ∃ (i f : Nat) (ws : List (List UInt8)), i ≤ s.size ∧ f ≤ i ∧ v6 = .int .i64 (f : Int) ∧ v7 = .int .i64 (i : Int) ∧ ws.length ≤ i ∧ ws ++ cutL (L.drop f) = cutL L ∧ (∀ k, f ≤ k → k < i → L[k]? ≠ some 32) ∧ w'.ownsRow w.heap.size 9 1 v5 ws.length (ws.map sv) ∧ Below w.heap.size w w') (fun _ _ i _ => s.size - (intOf i).toNat)
  case atStart => exact ⟨0, 0, [], by omega, by omega, rfl, rfl, by simp, by simp, by omega, World.ownsRow_nil _ _ _ _, Below.refl _ _⟩
  case round =>
    obtain ⟨i, f, ws, hi, hfi, rfl, rfl, hwl, hcut, hno, ho, hB⟩ := hrel
    obtain ⟨oa, oc, rfl⟩ := iOwn_form ho
    have HC := hide hcut
    have HN := hide hno
    have HO := hide ho
    have hol := hide ho.lt
    clear hcut hno ho
    obtain ⟨n, hn⟩ : ∃ n, n = ws.length := ⟨_, rfl⟩
    have HNl := hide hn
    have hn2 : n ≤ 2000 := by omega
    rw [← hn] at HO hwl hol ⊢
    clear hn
    have hf0 : (0 : Int) ≤ (f : Int) := by omega
    by_cases hlt : i < s.size
    · have hlt' : (i : Int) < (s.size : Int) := by omega
      have hfi' : (f : Int) ≤ (i : Int) := by omega
      by_cases hb : (((s[i]'hlt).toNat : Int) == 32) = true
      · have hL32 : L[i]? = some 32 := by rw [HL.out, rb_get s i hlt]; exact congrArg some ((rb_is _ 32 (by decide)).2 (by simpa using hb))
        have HX := hide (ex_sv s f i (by omega))
        rw [← HL.out] at HX
        have HS := hide (cut_step hfi hL32 HN.out)
        obtain ⟨x, hx⟩ : ∃ x, x = s.extract f i := ⟨_, rfl⟩
        rw [← hx] at HX
        have HXe := hide hx
        have hm1 : n + 1 ≤ maxLen := by unfold maxLen; omega
        clear hL32 hx
        go_upto_region 7 with fail
        go_wp2_with (at_builtin; refine wpList_append_sep rfl _ _ 34 rfl w.heap.size 9 i0 (.string ⟨#[]⟩) 1 16 Tryd.underlying34 Hi.out hz0 hz1 hz2 rfl (by decide) _ n _ rfl (HO.out.alloc _) ⟨wr.heap.size, 0, none⟩ 1 1 [.string (s.extract f i)] rfl rfl (new_str (heap_alloc_new wr _)) (by simp [Value.oneCell']) hm1 (by omega) (by have := hB.size; simp; omega) ?_)
        intro v4 w4 hown4 hgrow4 hap4
        obtain ⟨a4, c4, rfl⟩ := iOwn_form hown4
        have hB4 : Below w.heap.size w w4 := (hB.alloc hB.size _).grown hgrow4 (by have := hB.size; simp; omega) (fun k hk => (hol.out k hk).1)
        have HO4 := hide hown4
        clear hown4 hgrow4 hap4
        go_wp2_with fail
        refine ⟨⟨i + 1, i + 1, ws ++ [(L.drop f).take (i - f)], by omega, by omega, by go_num, by go_num, by simp; have := HNl.out; omega, ?_, by omega, ?_, hB4⟩, by simp [intOf]; omega⟩
        · rw [List.append_assoc, ← HC.out, HS.out]; rfl
        · have h1 := HO4.out
          rw [← HXe.out, HX.out] at h1
          rw [List.length_append, ← HNl.out, List.map_append]
          exact h1
      · have hb2 : L[i]? ≠ some 32 := by
          rw [HL.out, rb_get s i hlt]
          intro hc
          simp only [Option.some.injEq] at hc
          exact hb (by simpa using (rb_is _ 32 (by decide)).1 hc)
        rw [Bool.not_eq_true] at hb
        have HN2 : Hid (∀ k, f ≤ k → k < i + 1 → L[k]? ≠ some 32) := hide (fun k h1 h2 => by
          by_cases h3 : k < i
          · exact HN.out k h1 h3
          · rw [show k = i by omega]; exact hb2)
        clear hb2
        go_wp2_with fail
        exact ⟨⟨i + 1, f, ws, by omega, by omega, by go_num, by go_num, by have := HNl.out; omega, HC.out, HN2.out, by rw [← HNl.out]; exact HO.out, hB⟩, by simp [intOf]; omega⟩
    · obtain rfl : i = s.size := by omega
      have HX := hide (ex_sv s f s.size (Nat.le_refl _))
      rw [← HL.out] at HX
      have HLa := hide (cut_last (L := L) (f := f) (fun k h1 h2 => HN.out k h1 (by have := HLn.out; omega)))
      have hm1 : n + 1 ≤ maxLen := by unfold maxLen; omega
      have hfs : (f : Int) ≤ (s.size : Int) := by omega
      go_upto_region 9 with fail
      go_wp2_with (at_builtin; refine wpList_append_sep rfl _ _ 34 rfl w.heap.size 9 i0 (.string ⟨#[]⟩) 1 16 Tryd.underlying34 Hi.out hz0 hz1 hz2 rfl (by decide) _ n _ rfl (HO.out.alloc _) ⟨wr.heap.size, 0, none⟩ 1 1 [.string (s.extract f s.size)] rfl rfl (new_str (heap_alloc_new wr _)) (by simp [Value.oneCell']) hm1 (by omega) (by have := hB.size; simp; omega) ?_)
      intro v4 w4 hown4 hgrow4 hap4
      obtain ⟨a4, c4, rfl⟩ := iOwn_form hown4
      have hB4 : Below w.heap.size w w4 := (hB.alloc hB.size _).grown hgrow4 (by have := hB.size; simp; omega) (fun k hk => (hol.out k hk).1)
      have HO4 := hide hown4
      clear hown4 hgrow4 hap4
      go_wp2_with fail
      go_ret
      have hW : cutL L = ws ++ [(L.drop f).take (s.size - f)] := by
        rw [← HC.out, HLa.out]
        congr 2
        rw [List.take_of_length_le]
        have := HLn.out
        simp; omega
      have hLen : (cutL L).length = n + 1 := by rw [hW, List.length_append, ← HNl.out]; rfl
      have h1 := HO4.out
      rw [HX.out, show ws.map sv ++ [sv ((L.drop f).take (s.size - f))] = (cutL L).map sv by rw [hW, List.map_append]; rfl] at h1
      obtain ⟨g, cap, e1, h2, h3, h4⟩ := tOwn_lies h1 (by omega)
      refine ⟨_, rfl, ⟨g, 0, cap, by rw [hLen]; exact e1, h3, fun j hj => ?_⟩, hB4⟩
      rw [Nat.zero_add]
      exact h4 j _ (by simp [hj])

theorem split_words (s : ByteArray) : (Lib.splitB ⟨#[32]⟩ 0 (Lib.countB s ⟨#[32]⟩) s).map (·.data.toList) = cutL s.data.toList := by
  rw [Lib.splitB_data]
  exact splitK_cut _ _ (Nat.le_refl _)
theorem Split_any (s : ByteArray) (w : World) (hs : s.size ≤ 2000) (hm : ∃ m, w.cell? ⟨0, 0, none⟩ = some (.int .i64 m)) :
    Calls Tryd.prog 18 #[.string s, .string ⟨#[32]⟩] w fun e w' => ∃ v, e = .returned v ∧ StR w' v (cutL s.data.toList) ∧ Below w.heap.size w w' := by
  obtain ⟨m, hm⟩ := hm
  refine (Tryd.strings_Split s ⟨#[32]⟩ m w (by omega) hm (by decide)).mono ?_
  rintro e w' ⟨rfl, rfl⟩
  have hW := split_words s
  have hl : (Lib.splitB ⟨#[32]⟩ 0 (Lib.countB s ⟨#[32]⟩) s).length = (cutL s.data.toList).length := by rw [← hW, List.length_map]
  have hlen := Lib.splitB_all ⟨#[32]⟩ (by decide) 0 _ s rfl
  refine ⟨_, rfl, ⟨w.heap.size, 0, Lib.countB s ⟨#[32]⟩ + 1, ?_, by simp, fun i hi => ?_⟩, (Below.refl _ _).alloc (Nat.le_refl _) _⟩
  · rw [← hl]
    congr 1
    first | exact hlen.symm | omega
  · rw [Nat.zero_add, cell_of_blk (heap_alloc_new w _)]
    have hi2 : i < (Lib.splitB ⟨#[32]⟩ 0 (Lib.countB s ⟨#[32]⟩) s).length := by omega
    have e1 : (cutL s.data.toList)[i] = ((Lib.splitB ⟨#[32]⟩ 0 (Lib.countB s ⟨#[32]⟩) s)[i]).data.toList := by
      have := List.getElem_of_eq hW.symm hi
      rw [this, List.getElem_map]
    rw [e1]
    simp [hi2, sv]
end Go.Proofs.YthnkdlhkldcaoaaDoor.W

/-
  Contracts of l1Lex and LexText (the specification's): the tokens of a text, or the place of the first fault, as the plain function lexR tells them. Conditions: at most 1000 bytes (l1Lex).
-/
import Derived.Test.YtmnicilgenpnfaaDoorLex2
namespace Go.Proofs.YtmnicilgenpnfaaDoor.W
open Go.ChangeShapes Go.WideShapes Go.ChangeAt Go.RowKit

theorem infoTok : (Tryd.prog.info? 44).map (fun i => (i.zero, i.size, i.bytes)) = some (some (.agg #[.int .i64 0, .int .i64 0, .string ⟨#[]⟩, .int .i64 0]), 4, 40) := by kernel_rfl

theorem grown_none {w w' : World} (h : Below w.heap.size w w') : w.grownBy w' none := ⟨h.os, h.tape, h.output, h.size, fun k hk _ => h.block k hk⟩
theorem own_kept {w w' : World} {base : Nat} {e : TypeId} {size : Nat} {v : Value} {n : Nat} {xs : List Value} (h : w.ownsRow base e size v n xs) (hb : Below w.heap.size w w') : w'.ownsRow base e size v n xs :=
  h.kept (grown_none hb) (by cases v.ownBlock with | none => exact .inl rfl | some k => exact .inr (by simp))

theorem tokC_one (x : Wd × Nat) : ∀ u ∈ tokC x, u.oneCell' = true := by
  intro u hu; simp [tokC] at hu; rcases hu with rfl | rfl | rfl | rfl <;> rfl

theorem tokC_cells {w : World} {g : Nat} (x : Wd × Nat) (hc : w.heap[g]? = some (.cells #[.int .i64 x.1.kind, .int .i64 x.1.num, .string x.1.text, .int .i64 x.2] 44)) : ∀ j u, (tokC x)[j]? = some u → w.cell? ((⟨g, 0, none⟩ : Addr).add j) = some u := by
  intro j u hj
  have e : (⟨g, 0, none⟩ : Addr).add j = ⟨g, j, none⟩ := by unfold Addr.add; split <;> simp_all
  rw [e, cell_of_blk hc]
  rw [← hj]
  obtain ⟨d, q⟩ := x
  simp only [tokC, List.getElem?_toArray]

theorem own_form {w : World} {base : Nat} {e : TypeId} {size : Nat} {v : Value} {n : Nat} {xs : List Value} (h : w.ownsRow base e size v n xs) : ∃ a c, v = .slice a n c := by
  rcases h.2 with ⟨rfl, rfl⟩ | ⟨g, cap, cur, rfl, _⟩
  · exact ⟨_, _, rfl⟩
  · exact ⟨_, _, rfl⟩

set_option maxHeartbeats 2000000 in
theorem l1Lex_any (s : ByteArray) (w : World) (hs : s.size ≤ 1000) :
    Calls Tryd.prog 9 #[.string s] w fun e w' => ∃ v, e = .returned (.tuple #[v, .int .i64 ((lexR s).2.1 : Nat), .bool (lexR s).2.2]) ∧ w'.ownsRow w.heap.size 44 4 v (lexR s).1.length (toksC (lexR s).1) ∧ Below w.heap.size w w' := by
  obtain ⟨i0, hi, hz0, hz1, hz2⟩ := info_parts infoTok
  go_enter Tryd.func9, Tryd.ntmps9
  go_wp2_with fail
  go_loopw [5, 6] (fun v a w' => ∃ (p f : Nat) (out : Toks), p ≤ s.size ∧ s.size - p ≤ f ∧ out.length ≤ 120 ∧ a = .int .i64 p ∧ lexGo s f p out = lexR s ∧ w'.ownsRow w.heap.size 44 4 v out.length (toksC out) ∧ Below w.heap.size w w') (fun _ a _ => s.size - (intOf a).toNat)
  case atStart => exact ⟨0, s.size, [], by omega, by omega, by simp, rfl, rfl, World.ownsRow_nil _ _ _ _, Below.refl _ _⟩
  case round =>
    obtain ⟨p, f, out, hp, hf, hlen, rfl, hlex, hown, hB⟩ := hrel
    have Hlex := hide hlex
    clear hlex
    obtain ⟨ad, cp, rfl⟩ := own_form hown
    have hlen' : (out.length : Int) ≤ 120 := by omega
    by_cases hlt : p < s.size
    · have hlt' : (p : Int) < (s.size : Int) := by omega
      by_cases hbl : blkB (s[p]'hlt).toNat = true
      · have HL := hide (lex_blank s f p out hlt hbl hf)
        by_cases h32 : (((s[p]'hlt).toNat : Int) == 32) = true
        · clear hbl
          go_wp2_with fail
          refine ⟨⟨p + 1, f - 1, out, by omega, by omega, hlen, by go_num, by rw [← HL.out]; exact Hlex.out, hown, hB⟩, by simp [intOf]; omega⟩
        · have h10 : (((s[p]'hlt).toNat : Int) == 10) = true := by simp [blkB] at hbl; simp at h32; simpa using (by omega : ((s[p]'hlt).toNat : Int) = 10)
          rw [Bool.not_eq_true] at h32
          clear hbl
          go_wp2_with fail
          refine ⟨⟨p + 1, f - 1, out, by omega, by omega, hlen, by go_num, by rw [← HL.out]; exact Hlex.out, hown, hB⟩, by simp [intOf]; omega⟩
      · rw [Bool.not_eq_true] at hbl
        have hbl2 : ¬ ((s[p]'hlt).toNat : Int) = 32 ∧ ¬ ((s[p]'hlt).toNat : Int) = 10 := by simp [blkB] at hbl; omega
        have h32 : (((s[p]'hlt).toNat : Int) == 32) = false := by simpa using hbl2.1
        have h10 : (((s[p]'hlt).toNat : Int) == 10) = false := by simpa using hbl2.2
        have Hbl := hide hbl
        clear hbl hbl2
        go_wp2_with fail
        refine (l1Token_any s p _ hs hlt).mono ?_
        rintro e w1 ⟨rfl, hb1⟩
        have hown1 := own_kept hown hb1
        have hB1 : Below w.heap.size w w1 := hB.trans (hb1.mono hB.size)
        clear hown hb1 hB
        cases hw : wordAt s p with
        | none =>
          have HL := hide (lex_bad s f p out hlt Hbl.out hf hw)
          simp only [tokV, endOf]
          clear hw
          go_wp2_with fail
          go_ret3
          have e : lexR s = ([], p, false) := by rw [← Hlex.out]; exact HL.out
          rw [e]
          exact ⟨_, rfl, World.ownsRow_nil _ _ _ _, hB1.alloc hB1.size _⟩
        | some d =>
          have hwl := word_len s p hp d hw
          have hen : endOf (some d) p = ((p + d.len : Nat) : Int) := rfl
          have htk : tokV (some d) p = .agg #[.int .i64 d.kind, .int .i64 d.num, .string d.text, .int .i64 p] := rfl
          obtain ⟨q, hq⟩ : ∃ q, q = p + d.len := ⟨_, rfl⟩
          rw [hen, htk, ← hq]
          have hq0 : (((q : Nat) : Int) == 0) = false := by simp; omega
          have hq1 : q ≤ s.size := by omega
          have hq2 : p < q := by omega
          have Hq := hide hq
          have Hw := hide hw
          clear hq hen htk hwl hw
          by_cases hn : ((out.length : Int) == 120) = true
          · have HL := hide (lex_many s f p out hlt Hbl.out hf (by simp at hn; omega))
            go_wp2_with fail
            go_ret3
            have e : lexR s = ([], p, false) := by rw [← Hlex.out]; exact HL.out
            rw [e]
            exact ⟨_, rfl, World.ownsRow_nil _ _ _ _, hB1.alloc hB1.size _⟩
          · rw [Bool.not_eq_true] at hn
            have hn2 : ¬ out.length = 120 := by simp at hn; omega
            have HL := hide (lex_word s f p out hlt Hbl.out hf d Hw.out hn2)
            have HB2 : Below w.heap.size w (w1.alloc (.cells #[.int .i64 d.kind, .int .i64 d.num, .string d.text, .int .i64 p] 44)) := hB1.alloc hB1.size _
            go_wp2_with (at_builtin; refine wpList_append_own _ rfl _ _ 28 rfl w.heap.size 44 i0 (.agg #[.int .i64 0, .int .i64 0, .string ⟨#[]⟩, .int .i64 0]) 4 40 Tryd.underlying28 hi hz0 hz1 hz2 rfl (by decide) _ _ _ rfl ((hown1.alloc _).alloc _) ⟨w1.heap.size + 1, 0, none⟩ 1 1 (tokC (d, p)) rfl rfl ?c1 ?c2 ?c3 ?c4 ?c5 ?_)
            case c1 => exact tokC_cells (d, p) (by have := heap_alloc_new (w1.alloc (.cells #[.int .i64 d.kind, .int .i64 d.num, .string d.text, .int .i64 p] 44)) (.cells #[.int .i64 d.kind, .int .i64 d.num, .string d.text, .int .i64 p] 44); simpa using this)
            case c2 => exact tokC_one _
            case c3 => unfold maxLen; omega
            case c4 => omega
            case c5 => have := hB1.size; simp; omega
            intro v' w2 hown2 hgrow _
            have HB3 := (HB2.alloc HB2.size (.cells #[.int .i64 d.kind, .int .i64 d.num, .string d.text, .int .i64 p] 44)).grown hgrow (by have := hB1.size; simp; omega) (fun k hk => (hown1.lt k hk).1)
            have HO : w2.ownsRow w.heap.size 44 4 v' (out ++ [(d, p)]).length (toksC (out ++ [(d, p)])) := by rw [toksC_snoc, List.length_append]; exact hown2
            have HOh := hide HO
            clear hown2 hgrow hown1 HB2 hB1 HO
            go_wp2_with fail
            refine ⟨⟨q, f - 1, out ++ [(d, p)], hq1, by omega, by simp; omega, rfl, ?_, HOh.out, HB3⟩, by simp [intOf]; omega⟩
            rw [Hq.out, ← HL.out]; exact Hlex.out
    · have HL := hide (lex_end s f p out hlt)
      go_wp2_with fail
      go_ret3
      have e : lexR s = (out, 0, true) := by rw [← Hlex.out]; exact HL.out
      rw [e]
      exact ⟨_, rfl, hown, hB⟩
end Go.Proofs.YtmnicilgenpnfaaDoor.W

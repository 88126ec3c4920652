/-
  A term's text read is the term, and a read text written is the text. No program here.
-/
import Derived.Test.YthnkdlhkldcaoaaDoorRdN
namespace Go.Proofs.YthnkdlhkldcaoaaDoor.W
open Go.Lib
set_option linter.unusedVariables false

theorem cut_join : ∀ (ws : List (List UInt8)), ws ≠ [] → (∀ u ∈ ws, ∀ b ∈ u, b ≠ 32) → cutL (Lib.join ws [32]) = ws
  | [], h, _ => absurd rfl h
  | [u], _, h => by rw [Lib.join_one]; exact cutL_one u (h u (by simp))
  | u :: v :: ws, _, h => by
    have e : Lib.join (u :: v :: ws) [32] = u ++ 32 :: Lib.join (v :: ws) [32] := by
      rw [Lib.join_cons, Lib.join_cons]
      simp [Lib.joinTail]
    rw [e, cutL_app u _ (h u (by simp)), cut_join (v :: ws) (by simp) (fun x hx => h x (List.mem_cons_of_mem u hx))]
theorem join_cut : ∀ L : List UInt8, Lib.join (cutL L) [32] = L
  | [] => rfl
  | b :: L => by
    have ih := join_cut L
    unfold cutL
    split
    · rename_i hb
      subst hb
      obtain ⟨w, ws, hc⟩ : ∃ w ws, cutL L = w :: ws := by
        cases h : cutL L with
        | nil =>
          have : ∀ l : List UInt8, cutL l ≠ [] := by
            intro l
            cases l with
            | nil => simp [cutL]
            | cons a l => unfold cutL; split; simp; split <;> simp
          exact absurd h (this L)
        | cons w ws => exact ⟨w, ws, rfl⟩
      rw [hc] at ih ⊢
      have e : Lib.join ([] :: w :: ws) [32] = [] ++ 32 :: Lib.join (w :: ws) [32] := by
        rw [Lib.join_cons, Lib.join_cons]
        simp [Lib.joinTail]
      rw [e, ih]; rfl
    · cases hc : cutL L with
      | nil =>
        rw [hc] at ih
        rw [show L = [] from ih.symm]
        exact Lib.join_one _ _
      | cons w ws =>
        rw [hc] at ih
        show Lib.join ((b :: w) :: ws) [32] = b :: L
        rw [Lib.join_cons] at ih ⊢
        rw [← ih]; rfl
theorem dec_free : ∀ u : Nat, ∀ b ∈ decDigits u, b ≠ 32 := by
  intro u
  induction u using Nat.strongRecOn with
  | _ u ih =>
    intro b hb
    rw [decDigits] at hb
    have one : ∀ d, d < 10 → UInt8.ofNat (48 + d) ≠ 32 := by
      intro d hd e
      have h1 := congrArg UInt8.toNat e
      rw [UInt8.toNat_ofNat'] at h1
      have h2 : (32 : UInt8).toNat = 32 := rfl
      omega
    split at hb
    · rename_i h
      rw [List.mem_singleton] at hb
      rw [hb]; exact one u h
    · rename_i h
      rcases List.mem_append.1 hb with hb | hb
      · exact ih _ (by omega) b hb
      · rw [List.mem_singleton] at hb
        rw [hb]; exact one _ (by omega)
theorem itoa_free (n : Int) : ∀ b ∈ itoa n, b ≠ 32 := by
  intro b hb
  unfold itoa at hb
  split at hb
  · rcases List.mem_cons.1 hb with rfl | hb
    · decide
    · exact dec_free _ b hb
  · exact dec_free _ b hb
theorem wdL_free {x : Cc} : ∀ b ∈ wdL x, b ≠ 32 := by
  intro b hb
  unfold wdL wd at hb
  split at hb
  · rw [show ((⟨#[118]⟩ : ByteArray) ++ itB x.n).data.toList = 118 :: itoa x.n by simp [itB]] at hb
    rcases List.mem_cons.1 hb with rfl | hb
    · decide
    · exact itoa_free _ b hb
  · split at hb
    · rw [show (itB x.n).data.toList = itoa x.n by simp [itB]] at hb
      exact itoa_free _ b hb
    · repeat' split at hb
      all_goals
        simp only [List.mem_singleton] at hb
        subst hb
        decide
theorem jl_all (l : List Cc) : jl l l.length = Lib.join (l.map wdL) [32] := by
  unfold jl
  rw [List.take_length]
  rfl
/-- A term's text read. -/
theorem text_back {l : List Cc} {s : ByteArray} (h : txL l = some s) : rdT s = some l := by
  unfold txL at h
  split at h
  · rename_i hg
    simp only [Option.some.injEq] at h
    obtain ⟨hg1, hg2⟩ := hg
    obtain ⟨-, hl0, hgc⟩ := goodT_all hg1
    subst h
    have hd : (jb l l.length).data.toList = Lib.join (l.map wdL) [32] := by
      unfold jb
      rw [← jl_all]
    have hc : cutL (jb l l.length).data.toList = l.map wdL := by
      rw [hd]
      refine cut_join _ (by intro e; rw [List.map_eq_nil_iff] at e; rw [e] at hl0; simp at hl0) (fun u hu b hb => ?_)
      obtain ⟨x, -, rfl⟩ := List.mem_map.1 hu
      exact wdL_free b hb
    rw [rdT_end (l := l) hg2 (by rw [hc, List.map_map]; exact List.map_congr_left (fun x hx => dcell_of (hgc x hx))), if_pos hg1]
  · cases h
/-- A read text written. -/
theorem back_text {u v : ByteArray} {l : List Cc} (h : rdT u = some l) (ht : txL l = some v) : v = u := by
  unfold txL at ht
  split at ht
  · simp only [Option.some.injEq] at ht
    subst ht
    apply ba_ext
    unfold jb
    show jl l l.length = u.data.toList
    rw [jl_all, ← join_cut u.data.toList]
    congr 1
    unfold rdT at h
    split at h
    · split at h
      · rename_i ha
        split at h
        · simp only [Option.some.injEq] at h
          subst h
          have key : ∀ ws : List (List UInt8), (ws.all fun w => (dcell w).isSome) = true → (ws.filterMap dcell).map wdL = ws := by
            intro ws
            induction ws with
            | nil => intro _; rfl
            | cons w ws ih =>
              intro hw
              simp only [List.all_cons, Bool.and_eq_true] at hw
              cases hd : dcell w with
              | none => rw [hd] at hw; cases hw.1
              | some x =>
                rw [List.filterMap_cons, hd]
                simp only [List.map_cons]
                rw [ih hw.2, dcell_is hd]
          exact key _ ha
        · cases h
      · cases h
    · cases h
  · cases ht
end Go.Proofs.YthnkdlhkldcaoaaDoor.W

/-
  Types whose variables are numbered anew, as they come: the model. No program here.
-/
import Derived.Test.YtjffignbiabmaacTyB
namespace Go.Proofs.Ytjffignbiabmaac.Y
open Go.Proofs.Ytjffignbiabmaac.W
set_option linter.unusedVariables false

/-- The variables of a row of cells as they come, behind those that are known. -/
def av1 (o : List Int) (x : Cc) : List Int := if x.k = 1 ∧ x.n ∉ o then o ++ [x.n] else o
def av : List Int → List Cc → List Int
  | o, [] => o
  | o, x :: l => av (av1 o x) l
theorem av_app : ∀ (a b : List Cc) (o : List Int), av o (a ++ b) = av (av o a) b
  | [], b, o => rfl
  | x :: a, b, o => av_app a b (av1 o x)
theorem av1_ext (o : List Int) (x : Cc) : ∃ m, av1 o x = o ++ m := by
  unfold av1
  split
  · exact ⟨_, rfl⟩
  · exact ⟨[], by simp⟩
theorem av_ext : ∀ (l : List Cc) (o : List Int), ∃ m, av o l = o ++ m
  | [], o => ⟨[], by simp [av]⟩
  | x :: l, o => by
    obtain ⟨m, hm⟩ := av1_ext o x
    obtain ⟨m', hm'⟩ := av_ext l (av1 o x)
    exact ⟨m ++ m', by rw [av, hm', hm, List.append_assoc]⟩
theorem av1_nodup {o : List Int} (h : o.Nodup) (x : Cc) : (av1 o x).Nodup := by
  unfold av1
  split
  · rename_i hx
    rw [List.nodup_append]
    refine ⟨h, by simp, ?_⟩
    intro a ha b hb
    simp only [List.mem_singleton] at hb
    subst hb
    intro e
    exact hx.2 (e ▸ ha)
  · exact h
theorem av_nodup : ∀ (l : List Cc) {o : List Int}, o.Nodup → (av o l).Nodup
  | [], o, h => h
  | x :: l, o, h => av_nodup l (av1_nodup h x)
theorem av1_mem (o : List Int) {x : Cc} (h : x.k = 1) : x.n ∈ av1 o x := by
  unfold av1
  split
  · simp
  · rename_i hx
    by_cases hm : x.n ∈ o
    · exact hm
    · exact absurd ⟨h, hm⟩ hx
theorem av_mem : ∀ (l : List Cc) (o : List Int) (x : Cc), x ∈ l → x.k = 1 → x.n ∈ av o l
  | y :: l, o, x, hx, hk => by
    rcases List.mem_cons.1 hx with rfl | h
    · obtain ⟨m, hm⟩ := av_ext l (av1 o x)
      rw [av, hm]
      exact List.mem_append_left _ (av1_mem o hk)
    · exact av_mem l _ x h hk
theorem av1_len (o : List Int) (x : Cc) : (av1 o x).length ≤ o.length + 1 := by
  unfold av1; split <;> simp
theorem av_len : ∀ (l : List Cc) (o : List Int), (av o l).length ≤ o.length + l.length
  | [], o => by simp [av]
  | x :: l, o => by have := av_len l (av1 o x); have := av1_len o x; simp only [av, List.length_cons]; omega

/-- The cell with its variable's place on a list for its number. -/
def rn (L : List Int) (x : Cc) : Cc := if x.k = 1 then ⟨x.k, ((L.idxOf x.n : Nat) : Int)⟩ else x
theorem rn_k (L : List Int) (x : Cc) : (rn L x).k = x.k := by unfold rn; split <;> rfl
def tidy (l : List Cc) : List Cc := l.map (rn (av [] l))
theorem idx_ext {L : List Int} (m : List Int) {n : Int} (h : n ∈ L) : (L ++ m).idxOf n = L.idxOf n := by
  rw [List.idxOf_append, if_pos h]

/-- How many of them have nothing behind them. -/
def F.lvs : F → Nat
  | .nil => 0
  | .cons x k r => (if k.len = 0 then 1 else k.lvs) + r.lvs
theorem lvs_flat : ∀ (a : F), a.ok → a.flat.length + a.len = 2 * a.lvs
  | .nil, _ => rfl
  | .cons x k r, ⟨h1, h2, h3, h4⟩ => by
    have hk := lvs_flat k h3
    have hr := lvs_flat r h4
    simp only [F.flat, F.len, F.lvs, List.length_cons, List.length_append]
    by_cases h0 : k.len = 0
    · rw [if_pos h0]
      have := F.len_0 h0
      subst this
      simp [F.flat]; omega
    · rw [if_neg h0]
      have : k.len = 2 := by rw [h2] at h0 ⊢; unfold ar at *; split at h0 <;> simp_all
      omega
theorem av_lvs : ∀ (a : F) (o : List Int), a.ok → (av o a.flat).length ≤ o.length + a.lvs
  | .nil, o, _ => by simp [av, F.flat]
  | .cons x k r, o, ⟨h1, h2, h3, h4⟩ => by
    show (av (av1 o x) (k.flat ++ r.flat)).length ≤ _
    rw [av_app]
    have hr := av_lvs r (av (av1 o x) k.flat) h4
    have hk := av_lvs k (av1 o x) h3
    have h5 := av1_len o x
    simp only [F.lvs]
    by_cases h0 : k.len = 0
    · rw [if_pos h0]
      have := F.len_0 h0
      subst this
      simp only [F.flat, av] at hr ⊢
      omega
    · rw [if_neg h0]
      have : av1 o x = o := by
        unfold av1
        rw [if_neg]
        intro hx
        rw [h2, ar, if_neg (by omega)] at h0
        exact h0 rfl
      rw [this] at hk hr ⊢
      omega

/-- All cells turned. -/
def F.map (f : Cc → Cc) : F → F
  | .nil => .nil
  | .cons x k r => .cons (f x) (k.map f) (r.map f)
theorem map_len (f : Cc → Cc) : ∀ a : F, (a.map f).len = a.len
  | .nil => rfl
  | .cons x k r => by simp [F.map, F.len, map_len f r]
theorem map_flat (f : Cc → Cc) : ∀ a : F, (a.map f).flat = a.flat.map f
  | .nil => rfl
  | .cons x k r => by simp [F.map, F.flat, map_flat f k, map_flat f r]
theorem map_app (f : Cc → Cc) : ∀ a b : F, (a.app b).map f = (a.map f).app (b.map f)
  | .nil, b => rfl
  | .cons x k r, b => by simp [F.map, F.app, map_app f r b]
theorem rn_good {L : List Int} {x : Cc} (h : goodC x = true) (hm : x.k = 1 → x.n ∈ L) (hL : L.length ≤ 31) : goodC (rn L x) = true := by
  unfold rn
  split
  · rename_i hk
    have := List.idxOf_lt_length_of_mem (hm hk)
    simp only [goodC, hk, if_true, inB, Bool.and_eq_true, decide_eq_true_eq]
    omega
  · exact h
theorem map_ok {L : List Int} (hL : L.length ≤ 31) : ∀ a : F, a.ok → (∀ x ∈ a.flat, x.k = 1 → x.n ∈ L) → (a.map (rn L)).ok
  | .nil, _, _ => trivial
  | .cons x k r, ⟨h1, h2, h3, h4⟩, hm => by
    refine ⟨rn_good h1 (hm x (by simp [F.flat])) hL, ?_, map_ok hL k h3 (fun y hy => hm y (by simp [F.flat, hy])), map_ok hL r h4 (fun y hy => hm y (by simp [F.flat, hy]))⟩
    rw [map_len, rn_k]; exact h2
theorem tidy_tree {l : List Cc} {a : F} (h : treeT l = some a) : treeT (tidy l) = some (a.map (rn (av [] l))) ∧ (av [] l).length ≤ 30 := by
  obtain ⟨t1, t2, t3, t4, -⟩ := treeT_flat h
  have h1 := lvs_flat a t2
  have h2 := av_lvs a [] t2
  rw [← t1] at h1 h2
  have h3 : (av [] l).length ≤ 30 := by simp at h2; omega
  refine ⟨?_, h3⟩
  have : tidy l = (a.map (rn (av [] l))).flat := by rw [map_flat, ← t1]; rfl
  rw [this]
  refine treeT_back (map_ok (by omega) a t2 (fun x hx hk => ?_)) (by rw [map_len]; exact t3) ?_
  · rw [← t1] at hx; exact av_mem l [] x hx hk
  · rw [map_flat, ← t1]; simpa using t4
end Go.Proofs.Ytjffignbiabmaac.Y

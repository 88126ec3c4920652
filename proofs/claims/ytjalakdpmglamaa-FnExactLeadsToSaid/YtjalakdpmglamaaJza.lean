/-
  Some texts of this proof in one: TeDm, TeLb.
-/
import Derived.Test.YtjalakdpmglamaaWkTeKs
import Derived.Test.YtjalakdpmglamaaJz
import Derived.Test.YtjalakdpmglamaaJr
import Derived.Test.YtjalakdpmglamaaJn
import Derived.Test.YtjalakdpmglamaaJo
import Derived.Test.YtjalakdpmglamaaTeLm
/-
  Terms developed: the model, and what bounds the variables that are made on the way. No program here.
-/
namespace Go.Proofs.Ytjalakdpmglamaa.W
open Go.ChangeShapes Go.WideShapes Go.ChangeAt Go.RowKit
set_option linter.unusedVariables false

def gB (B : Int) (x : Cc) : Prop := (x.k = 1 → 0 ≤ x.n ∧ x.n ≤ B) ∧ (x.k = 2 → -1000000 ≤ x.n ∧ x.n ≤ 1000000) ∧ (3 ≤ x.k → x.n = 0) ∧ (1 ≤ x.k ∧ x.k ≤ 7)
def F.okB (B : Int) : F → Prop
  | .nil => True
  | .cons x k r => gB B x ∧ k.len = ar x.k ∧ k.okB B ∧ r.okB B
theorem gB_of {x : Cc} (h : goodC x = true) : gB 99 x := by
  unfold goodC at h
  unfold gB
  by_cases h1 : x.k = 1
  · rw [if_pos h1] at h; unfold inB at h; simp at h; omega
  · rw [if_neg h1] at h
    by_cases h2 : x.k = 2
    · rw [if_pos h2] at h; unfold inB at h; simp at h; omega
    · rw [if_neg h2] at h; unfold inB at h; simp at h; omega
theorem gB_mono {B B' : Int} {x : Cc} (h : gB B x) (hb : B ≤ B') : gB B' x := ⟨fun e => by have := h.1 e; omega, h.2⟩
theorem okB_of : ∀ {a : F}, a.ok → a.okB 99
  | .nil, _ => trivial
  | .cons x k r, h => ⟨gB_of h.1, h.2.1, okB_of h.2.2.1, okB_of h.2.2.2⟩
theorem okB_mono {B B' : Int} (hb : B ≤ B') : ∀ {a : F}, a.okB B → a.okB B'
  | .nil, _ => trivial
  | .cons x k r, h => ⟨gB_mono h.1 hb, h.2.1, okB_mono hb h.2.2.1, okB_mono hb h.2.2.2⟩
theorem gB_w {B : Int} (hb : B ≤ 900000) {x : Cc} (h : gB B x) : V.goodC x = true := by
  obtain ⟨h1, h2, h3, h4⟩ := h
  unfold V.goodC
  by_cases e1 : x.k = 1
  · rw [if_pos e1]; have := h1 e1; unfold inB; simp; omega
  · rw [if_neg e1]
    by_cases e2 : x.k = 2
    · rw [if_pos e2]; have := h2 e2; unfold inB; simp; omega
    · rw [if_neg e2]; have := h3 (by omega); unfold inB; simp; omega
theorem okB_w {B : Int} (hb : B ≤ 900000) : ∀ {a : F}, a.okB B → a.okw
  | .nil, _ => trivial
  | .cons x k r, h => ⟨gB_w hb h.1, h.2.1, okB_w hb h.2.2.1, okB_w hb h.2.2.2⟩
theorem shc_B {B : Int} (d : Nat) (f : Nat) {x : Cc} (h : gB B x) : gB (B + d) (shc (d : Int) f x) ∧ (shc (d : Int) f x).k = x.k := by
  unfold shc
  split
  · rename_i h1
    refine ⟨⟨fun _ => ?_, fun e => ?_, fun e => ?_, h.2.2.2⟩, rfl⟩
    · have := h.1 h1.1; simp only; omega
    · simp only at e; omega
    · simp only at e; omega
  · exact ⟨gB_mono h (by omega), rfl⟩
theorem shf_B {B : Int} (d : Nat) : ∀ (a : F) (pk : Int) (f i : Nat), a.okB B → (shf (d : Int) pk f i a).okB (B + d)
  | .nil, _, _, _, _ => trivial
  | .cons x k r, pk, f, i, h => by
    have h1 := shc_B (B := B) d (f + binds pk i) h.1
    exact ⟨h1.1, by rw [shf_len, h1.2]; exact h.2.1, shf_B d k _ _ _ h.2.2.1, shf_B d r _ _ _ h.2.2.2⟩
theorem sbf_B {B : Int} (K D : Nat) (sx : Cc) (sk : F) (hB : 0 ≤ B) (hs : (F.cons sx sk .nil).okB B) : ∀ (a : F) (pk : Int) (d i : Nat), a.okB B → d + a.flat.length ≤ D → (sbf K sx sk pk d i a).okB (B + D)
  | .nil, _, _, _, _, _ => trivial
  | .cons x k r, pk, d, i, h, hD => by
    have hbi := binds_le pk i
    simp only [F.flat, List.length_cons, List.length_append] at hD
    rw [sbf_cons]
    have hr := sbf_B K D sx sk hB hs r pk d (i + 1) h.2.2.2 (by omega)
    by_cases hx : x.k = 1
    · by_cases he : x.n = (K : Int) + ((d + binds pk i : Nat) : Int)
      · have e1 : sbr K sx (d + binds pk i) x = shc ((d + binds pk i : Nat) : Int) 0 sx := by unfold sbr; rw [if_pos hx, if_pos he]
        have e2 : sbk K sx sk (d + binds pk i) x k = shf ((d + binds pk i : Nat) : Int) sx.k 0 0 sk := by unfold sbk; rw [if_pos hx, if_pos he]
        rw [e1, e2]
        have h1 := shc_B (B := B) (d + binds pk i) 0 hs.1
        exact ⟨gB_mono h1.1 (by omega), by rw [shf_len, h1.2]; exact hs.2.1, okB_mono (by omega) (shf_B (d + binds pk i) sk _ _ _ hs.2.2.1), hr⟩
      · have e2 : sbk K sx sk (d + binds pk i) x k = .nil := by unfold sbk; rw [if_pos hx, if_neg he]
        rw [e2]
        by_cases hl : (K : Int) + ((d + binds pk i : Nat) : Int) < x.n
        · have e1 : sbr K sx (d + binds pk i) x = ⟨1, x.n - 1⟩ := by unfold sbr; rw [if_pos hx, if_neg he, if_pos hl]
          rw [e1]
          have := h.1.1 hx
          refine ⟨⟨fun _ => by simp only; omega, fun e => by simp only at e; omega, fun e => by simp only at e; omega, by simp only; omega⟩, rfl, trivial, hr⟩
        · have e1 : sbr K sx (d + binds pk i) x = x := by unfold sbr; rw [if_pos hx, if_neg he, if_neg hl]
          rw [e1]
          exact ⟨gB_mono h.1 (by omega), by rw [hx]; rfl, trivial, hr⟩
    · have e1 : sbr K sx (d + binds pk i) x = x := by unfold sbr; rw [if_neg hx]
      have e2 : sbk K sx sk (d + binds pk i) x k = sbf K sx sk x.k (d + binds pk i) 0 k := by unfold sbk; rw [if_neg hx]
      rw [e1, e2]
      exact ⟨gB_mono h.1 (by omega), by rw [sbf_len]; exact h.2.1, sbf_B K D sx sk hB hs k _ _ _ h.2.2.1 (by omega), hr⟩
theorem putO_B {B : Int} {d z : Cc} {kd kz : F} (hB : 0 ≤ B) (hd : (F.cons d kd .nil).okB B) (hz : (F.cons z kz .nil).okB B) (hB9 : B ≤ 900000) (hl : kd.flat.length + 1 ≤ 600) {p : Cc × F} (h : putO d kd z kz = some p) : (F.cons p.1 p.2 .nil).okB (B + 600) ∧ p.2.flat.length + 1 ≤ 600 := by
  unfold putO at h
  split at h
  · rename_i h6
    simp only [Option.some.injEq] at h
    subst h
    have h9 := sbf_B (B := B) 0 600 z kz hB hz (.cons d kd .nil) 0 0 0 hd (by simp [F.flat]; omega)
    have e0 : sbf 0 z kz 0 0 0 (.cons d kd .nil) = .cons (sbr 0 z 0 d) (sbk 0 z kz 0 d kd) .nil := by rw [sbf_cons, binds_0]; rfl
    rw [e0] at h9
    refine ⟨h9, ?_⟩
    have g9 := V.sbf_flat 0 z kz (.cons d kd .nil) 0 0 0 (okB_w hB9 hd)
    have g10 : usf (0 + 0) 0 0 (.cons d kd .nil) = us1 0 d kd := by rw [usf_cons, binds_0]; simp [usf]
    rw [g10, e0] at g9
    simp [F.flat] at g9
    simp only
    omega
  · cases h

/-- Terms one behind the other, each developed. -/
def dvF : F → Option F
  | .nil => some .nil
  | .cons y ky r => match dvF ky with
    | none => none
    | some ky' => if ky'.flat.length + 1 ≤ 600 then (match (if redx y ky = true then ctrO y ky' else some (y, ky')) with | none => none | some p => (dvF r).map fun r' => F.cons p.1 p.2 r') else none
/-- A term developed. -/
def dv (x : Cc) (k : F) : Option (Cc × F) := match dvF k with
  | none => none
  | some k' => if k'.flat.length + 1 ≤ 600 then (if redx x k = true then ctrO x k' else some (x, k')) else none
theorem dvF_cons (y : Cc) (ky r : F) : dvF (.cons y ky r) = match dv y ky with | none => none | some p => (dvF r).map fun r' => F.cons p.1 p.2 r' := by
  rw [dvF]
  unfold dv
  cases dvF ky with
  | none => rfl
  | some ky' =>
    simp only
    by_cases h : ky'.flat.length + 1 ≤ 600
    · rw [if_pos h, if_pos h]
    · rw [if_neg h, if_neg h]
theorem dvF_len : ∀ {a a' : F}, dvF a = some a' → a'.len = a.len
  | .nil, a', h => by simp only [dvF, Option.some.injEq] at h; subst h; rfl
  | .cons y ky r, a', h => by
    rw [dvF_cons] at h
    split at h
    · cases h
    · cases hr : dvF r with
      | none => rw [hr] at h; cases h
      | some r' =>
        rw [hr] at h
        simp only [Option.map_some, Option.some.injEq] at h
        subst h
        simp [F.len, dvF_len hr]
theorem dvF_split {y : Cc} {ky r a' : F} (h : dvF (.cons y ky r) = some a') : ∃ p r', dv y ky = some p ∧ dvF r = some r' ∧ a' = .cons p.1 p.2 r' := by
  rw [dvF_cons] at h
  split at h
  · cases h
  · rename_i p hp
    cases hr : dvF r with
    | none => rw [hr] at h; cases h
    | some r' =>
      rw [hr] at h
      simp only [Option.map_some, Option.some.injEq] at h
      exact ⟨p, r', hp, rfl, h.symm⟩
theorem dv_plain {y : Cc} {ky : F} {p : Cc × F} (hr : redx y ky = false) (h : dv y ky = some p) : p.1 = y ∧ dvF ky = some p.2 := by
  unfold dv at h
  split at h
  · cases h
  · rename_i k' hk'
    split at h
    · rw [if_neg (by rw [hr]; simp)] at h
      simp only [Option.some.injEq] at h
      subst h
      exact ⟨rfl, hk'⟩
    · cases h
/-- A redex whose parts were developed. -/
inductive RedW (x : Cc) (k : F) (B : Int) : Prop
  | app (y d z : Cc) (kd kz : F) (hx : x.k = 4) (hk : k = .cons y (.cons d kd .nil) (.cons z kz .nil)) (hy : y.k = 3) (hd : (F.cons d kd .nil).okB B) (hz : (F.cons z kz .nil).okB B)
  | lett (y d : Cc) (ky kd : F) (hx : x.k = 7) (hk : k = .cons y ky (.cons d kd .nil)) (hy : (F.cons y ky .nil).okB B) (hd : (F.cons d kd .nil).okB B)
  | add (y z : Cc) (hx : x.k = 5) (hk : k = .cons y .nil (.cons z .nil .nil)) (hy : y.k = 2) (hz : z.k = 2) (hyn : -1000000 ≤ y.n ∧ y.n ≤ 1000000) (hzn : -1000000 ≤ z.n ∧ z.n ≤ 1000000) (hs : inB (y.n + z.n) (-1000000) 1000000 = true)
  | iff (y z u : Cc) (kz ku : F) (hx : x.k = 6) (hk : k = .cons y .nil (.cons z kz (.cons u ku .nil))) (hy : y.k = 2) (hz : (F.cons z kz .nil).okB B) (hu : (F.cons u ku .nil).okB B)
theorem dvF_nil {a' : F} (h : dvF .nil = some a') : a' = .nil := by simp only [dvF, Option.some.injEq] at h; exact h.symm
theorem dv_red {x : Cc} {k k' : F} {B : Int} (hok : okT x k) (hr : redx x k = true) (h : dvF k = some k') (hB : k'.okB B) : RedW x k' B := by
  cases red_of hok hr with
  | app y d z kd kz hx hk' hy hd hz =>
    subst hk'
    obtain ⟨p, r', h1, h2, rfl⟩ := dvF_split h
    obtain ⟨e1, e2⟩ := dv_plain (by simp [redx, hy]) h1
    obtain ⟨q, r2, h3, h4, e3⟩ := dvF_split e2
    obtain rfl := dvF_nil h4
    obtain ⟨q2, r3, h5, h6, rfl⟩ := dvF_split h2
    obtain rfl := dvF_nil h6
    obtain ⟨p1, p2⟩ := p
    simp only at e1 e3 hB ⊢
    subst e1 e3
    exact .app _ q.1 q2.1 q.2 q2.2 hx rfl hy hB.2.2.1 hB.2.2.2
  | lett y d ky kd hx hk' hy hd =>
    subst hk'
    obtain ⟨p, r', h1, h2, rfl⟩ := dvF_split h
    obtain ⟨q2, r3, h5, h6, rfl⟩ := dvF_split h2
    obtain rfl := dvF_nil h6
    exact .lett p.1 q2.1 p.2 q2.2 hx rfl ⟨hB.1, hB.2.1, hB.2.2.1, trivial⟩ hB.2.2.2
  | add y z hx hk' hy hz hyn hzn hs =>
    subst hk'
    obtain ⟨p, r', h1, h2, rfl⟩ := dvF_split h
    obtain ⟨e1, e2⟩ := dv_plain (by simp [redx, hy]) h1
    obtain ⟨q2, r3, h5, h6, rfl⟩ := dvF_split h2
    obtain rfl := dvF_nil h6
    obtain ⟨e3, e4⟩ := dv_plain (by simp [redx, hz]) h5
    obtain ⟨p1, p2⟩ := p
    obtain ⟨q1, q2⟩ := q2
    have e5 := dvF_nil e2
    have e6 := dvF_nil e4
    simp only at e1 e3 e5 e6 ⊢
    subst e1 e3 e5 e6
    exact .add _ _ hx rfl hy hz hyn hzn hs
  | iff y z u kz ku hx hk' hy hz hu =>
    subst hk'
    obtain ⟨p, r', h1, h2, rfl⟩ := dvF_split h
    obtain ⟨e1, e2⟩ := dv_plain (by simp [redx, hy]) h1
    obtain ⟨q2, r3, h5, h6, rfl⟩ := dvF_split h2
    obtain ⟨q3, r4, h7, h8, rfl⟩ := dvF_split h6
    obtain rfl := dvF_nil h8
    obtain ⟨p1, p2⟩ := p
    have e5 := dvF_nil e2
    simp only at e1 e5 hB ⊢
    subst e1 e5
    exact .iff _ q2.1 q3.1 q2.2 q3.2 hx rfl hy ⟨hB.2.2.2.1, hB.2.2.2.2.1, hB.2.2.2.2.2.1, trivial⟩ hB.2.2.2.2.2.2
theorem ctrO_B {x : Cc} {k : F} {B : Int} (h : RedW x k B) (hB : 0 ≤ B) (hB9 : B ≤ 900000) (hl : k.flat.length + 1 ≤ 600) {p : Cc × F} (hp : ctrO x k = some p) : (F.cons p.1 p.2 .nil).okB (B + 600) ∧ p.2.flat.length + 1 ≤ 600 := by
  cases h with
  | app y d z kd kz hx hk' hy hd hz =>
    subst hk'
    have e1 : ctrO x (.cons y (.cons d kd .nil) (.cons z kz .nil)) = putO d kd z kz := by simp [ctrO, hx]
    rw [e1] at hp
    simp [F.flat] at hl
    exact putO_B hB hd hz hB9 (by omega) hp
  | lett y d ky kd hx hk' hy hd =>
    subst hk'
    have e1 : ctrO x (.cons y ky (.cons d kd .nil)) = putO d kd y ky := by simp [ctrO, hx]
    rw [e1] at hp
    simp [F.flat] at hl
    exact putO_B hB hd hy hB9 (by omega) hp
  | add y z hx hk' hy hz hyn hzn hs =>
    subst hk'
    have e1 : ctrO x (.cons y .nil (.cons z .nil .nil)) = some (⟨2, y.n + z.n⟩, .nil) := by simp [ctrO, hx]
    rw [e1] at hp
    simp only [Option.some.injEq] at hp
    subst hp
    unfold inB at hs
    simp at hs
    exact ⟨⟨⟨fun e => by simp at e, fun _ => by simp only; omega, fun e => by simp at e, by simp⟩, rfl, trivial, trivial⟩, by simp [F.flat]⟩
  | iff y z u kz ku hx hk' hy hz hu =>
    subst hk'
    have e1 : ctrO x (.cons y .nil (.cons z kz (.cons u ku .nil))) = some (if y.n = 0 then (z, kz) else (u, ku)) := by simp [ctrO, hx]
    rw [e1] at hp
    simp only [Option.some.injEq] at hp
    subst hp
    simp [F.flat] at hl
    split
    · exact ⟨okB_mono (by omega) hz, by simp only; omega⟩
    · exact ⟨okB_mono (by omega) hu, by simp only; omega⟩
theorem dvF_B : ∀ {a a' : F}, a.ok → a.flat.length ≤ 600 → dvF a = some a' → a'.okB (99 + 600 * a.flat.length)
  | .nil, a', _, _, h => by rw [dvF_nil h]; trivial
  | .cons y ky r, a', hok, hl, h => by
    have hf : (F.cons y ky r).flat.length = ky.flat.length + r.flat.length + 1 := by simp [F.flat]
    rw [hf] at hl ⊢
    obtain ⟨p, r', h1, h2, rfl⟩ := dvF_split h
    have hr := dvF_B hok.2.2.2 (by omega) h2
    unfold dv at h1
    split at h1
    · cases h1
    · rename_i k' hk'
      have hk := dvF_B hok.2.2.1 (by omega) hk'
      split at h1
      · rename_i h6
        by_cases hrd : redx y ky = true
        · rw [if_pos hrd] at h1
          have := (ctrO_B (dv_red ⟨hok.1, hok.2.1, hok.2.2.1⟩ hrd hk' hk) (by omega) (by omega) h6 h1).1
          exact ⟨gB_mono this.1 (by omega), this.2.1, okB_mono (by omega) this.2.2.1, okB_mono (by omega) hr⟩
        · rw [if_neg hrd] at h1
          simp only [Option.some.injEq] at h1
          subst h1
          exact ⟨gB_mono (gB_of hok.1) (by omega), by rw [dvF_len hk']; exact hok.2.1, okB_mono (by omega) hk, okB_mono (by omega) hr⟩
      · cases h1

theorem okB_T {B : Int} (hb : B ≤ 900000) {x : Cc} {k : F} (h : (F.cons x k .nil).okB B) : V.okT x k := ⟨gB_w hb h.1, h.2.1, okB_w hb h.2.2.1⟩
/-- Such a redex contracted by the program .. -/
theorem contracted_w {B : Int} (hB : B ≤ 900000) (b o c : Nat) (x : Cc) (k : F) (w : World) (hk : RedW x k B) (L : Nat) (hL : L = k.flat.length + 1) (hl : L ≤ 600) (hc : L ≤ c) (h : CRowAt w b o (x :: k.flat)) :
    Calls Try.prog 37 #[.slice (some ⟨b, o, none⟩) L c] w fun e w' => RU w ((ctrO x k).map fun p => p.1 :: p.2.flat) e w' := by
  cases hk with
  | app y d z kd kz hx hk' hy hd hz =>
    subst hk'
    have e1 : ctrO x (.cons y (.cons d kd .nil) (.cons z kz .nil)) = putO d kd z kz := by simp [ctrO, hx]
    rw [e1]
    have e2 : x :: (F.cons y (.cons d kd .nil) (.cons z kz .nil)).flat = [x, y] ++ ((d :: kd.flat) ++ (z :: kz.flat)) := by simp [F.flat]
    rw [e2] at h
    exact V.contracted_app b o c x y d z kd kz w hx (okB_T hB hd) (okB_T hB hz) L (by rw [hL]; simp [F.flat]; omega) hl hc h
  | lett y d ky kd hx hk' hy hd =>
    subst hk'
    have e1 : ctrO x (.cons y ky (.cons d kd .nil)) = putO d kd y ky := by simp [ctrO, hx]
    rw [e1]
    have e2 : x :: (F.cons y ky (.cons d kd .nil)).flat = [x] ++ ((y :: ky.flat) ++ (d :: kd.flat)) := by simp [F.flat]
    rw [e2] at h
    exact V.contracted_let b o c x y d ky kd w hx (okB_T hB hy) (okB_T hB hd) L (by rw [hL]; simp [F.flat]; omega) hl hc h
  | add y z hx hk' hy hz hyn hzn hs =>
    subst hk'
    have e1 : ctrO x (.cons y .nil (.cons z .nil .nil)) = some (⟨2, y.n + z.n⟩, .nil) := by simp [ctrO, hx]
    rw [e1]
    have e2 : x :: (F.cons y .nil (.cons z .nil .nil)).flat = [x, y, z] := by simp [F.flat]
    rw [e2] at h
    obtain rfl : L = 3 := by rw [hL]; simp [F.flat]
    exact contracted_add b o c x y z w hx hyn hzn h
  | iff y z u kz ku hx hk' hy hz hu =>
    subst hk'
    have e1 : (ctrO x (.cons y .nil (.cons z kz (.cons u ku .nil)))).map (fun p => p.1 :: p.2.flat) = some (if y.n = 0 then z :: kz.flat else u :: ku.flat) := by
      simp only [ctrO, hx]
      by_cases hy0 : y.n = 0
      · simp [hy0]
      · simp [hy0]
    rw [e1]
    have e2 : x :: (F.cons y .nil (.cons z kz (.cons u ku .nil))).flat = [x, y] ++ ((z :: kz.flat) ++ (u :: ku.flat)) := by simp [F.flat]
    rw [e2] at h
    exact V.contracted_if b o c x y z u kz ku w hx (okB_T hB hz) (okB_T hB hu) L (by rw [hL]; simp [F.flat]; omega) hl hc h

/-- .. and by the specification. -/
theorem l4Contract_w {B : Int} (hB : B ≤ 900000) (x : Cc) (k : F) (s : Value) (P : Nat → Prop) (w : World) (hk : RedW x k B) (hl : k.flat.length + 1 ≤ 600) (hT : KidT w P k s) :
    Calls Try.prog 20 #[.agg #[.int .i64 x.k, .int .i64 x.n, s]] w fun e w' => TO w' (fun g => P g ∨ w.heap.size ≤ g) (ctrO x k) e ∧ Below w.heap.size w w' := by
  cases hk with
  | app y d z kd kz hx hk' hy hd hz =>
    subst hk'
    have e1 : ctrO x (.cons y (.cons d kd .nil) (.cons z kz .nil)) = putO d kd z kz := by simp [ctrO, hx]
    rw [e1]
    simp [F.flat] at hl
    exact V.l4Contract_app x y d z kd kz s P w hx hy (okB_T hB hd) (okB_T hB hz) (by omega) (by omega) hT
  | lett y d ky kd hx hk' hy hd =>
    subst hk'
    have e1 : ctrO x (.cons y ky (.cons d kd .nil)) = putO d kd y ky := by simp [ctrO, hx]
    rw [e1]
    simp [F.flat] at hl
    exact V.l4Contract_let x y d ky kd s P w hx (okB_T hB hy) (okB_T hB hd) (by omega) (by omega) hT
  | add y z hx hk' hy hz hyn hzn hs =>
    subst hk'
    have e1 : ctrO x (.cons y .nil (.cons z .nil .nil)) = some (⟨2, y.n + z.n⟩, .nil) := by simp [ctrO, hx]
    rw [e1]
    exact l4Contract_add x y z s P w hx hy hz hyn hzn hs hT
  | iff y z u kz ku hx hk' hy hz hu =>
    subst hk'
    have e1 : ctrO x (.cons y .nil (.cons z kz (.cons u ku .nil))) = some (if y.n = 0 then (z, kz) else (u, ku)) := by simp [ctrO, hx]
    rw [e1]
    exact l4Contract_if x y z u kz ku s P w hx hy hT
end Go.Proofs.Ytjalakdpmglamaa.W

/-
  All that a term leads to at once: what each of these is made of, and what bounds its variables. No program here.
-/
namespace Go.Proofs.Ytjalakdpmglamaa.W
set_option linter.unusedVariables false

/-- Some redexes contracted at once, each with room. -/
def ldr : F → F → Prop
  | .nil, a' => a' = .nil
  | .cons y ky r, a' => ∃ ky' r', ldr ky ky' ∧ ldr r r' ∧ ky'.flat.length + 1 ≤ 600 ∧ (a' = .cons y ky' r' ∨ (redx y ky = true ∧ ∃ p, ctrO y ky' = some p ∧ a' = .cons p.1 p.2 r'))
theorem ldr_len : ∀ {a a' : F}, ldr a a' → a'.len = a.len
  | .nil, a', h => by simp only [ldr] at h; rw [h]
  | .cons y ky r, a', h => by
    simp only [ldr] at h
    obtain ⟨ky', r', h1, h2, h3, h4 | ⟨h5, p, h6, h7⟩⟩ := h
    · rw [h4, F.len, ldr_len h2, F.len]
    · rw [h7, F.len, ldr_len h2, F.len]
theorem ldr_plain {y : Cc} {ky r a' : F} (hr : redx y ky = false) (h : ldr (.cons y ky r) a') : ∃ ky' r', ldr ky ky' ∧ ldr r r' ∧ a' = .cons y ky' r' := by
  simp only [ldr] at h
  obtain ⟨ky', r', h1, h2, h3, h4 | ⟨h5, -⟩⟩ := h
  · exact ⟨ky', r', h1, h2, h4⟩
  · rw [hr] at h5; cases h5
theorem ldr_split {y : Cc} {ky r a' : F} (h : ldr (.cons y ky r) a') : ∃ (p : Cc × F) (r' : F), ldr r r' ∧ a' = .cons p.1 p.2 r' ∧ ldr (.cons y ky .nil) (.cons p.1 p.2 .nil) := by
  simp only [ldr] at h
  obtain ⟨ky', r', h1, h2, h3, h4 | ⟨h5, p, h6, h7⟩⟩ := h
  · exact ⟨(y, ky'), r', h2, h4, by simp only [ldr]; exact ⟨ky', .nil, h1, rfl, h3, .inl rfl⟩⟩
  · exact ⟨p, r', h2, h7, by simp only [ldr]; exact ⟨ky', .nil, h1, rfl, h3, .inr ⟨h5, p, h6, rfl⟩⟩⟩
theorem ldr_nil {a' : F} (h : ldr .nil a') : a' = .nil := h
theorem ldr_red {x : Cc} {k k' : F} {B : Int} (hok : okT x k) (hr : redx x k = true) (h : ldr k k') (hB : k'.okB B) : RedW x k' B := by
  cases red_of hok hr with
  | app y d z kd kz hx hk' hy hd hz =>
    subst hk'
    obtain ⟨ky', r', h1, h2, rfl⟩ := ldr_plain (by simp [redx, hy]) h
    obtain ⟨q, r2, h3, rfl, -⟩ := ldr_split h1
    obtain rfl := ldr_nil h3
    obtain ⟨q2, r3, h6, rfl, -⟩ := ldr_split h2
    obtain rfl := ldr_nil h6
    exact .app _ q.1 q2.1 q.2 q2.2 hx rfl hy hB.2.2.1 hB.2.2.2
  | lett y d ky kd hx hk' hy hd =>
    subst hk'
    obtain ⟨p, r', h2, rfl, -⟩ := ldr_split h
    obtain ⟨q2, r3, h6, rfl, -⟩ := ldr_split h2
    obtain rfl := ldr_nil h6
    exact .lett p.1 q2.1 p.2 q2.2 hx rfl ⟨hB.1, hB.2.1, hB.2.2.1, trivial⟩ hB.2.2.2
  | add y z hx hk' hy hz hyn hzn hs =>
    subst hk'
    obtain ⟨ky', r', h1, h2, rfl⟩ := ldr_plain (by simp [redx, hy]) h
    obtain rfl := ldr_nil h1
    obtain ⟨kz', r2, h3, h4, rfl⟩ := ldr_plain (by simp [redx, hz]) h2
    obtain rfl := ldr_nil h3
    obtain rfl := ldr_nil h4
    exact .add _ _ hx rfl hy hz hyn hzn hs
  | iff y z u kz ku hx hk' hy hz hu =>
    subst hk'
    obtain ⟨ky', r', h1, h2, rfl⟩ := ldr_plain (by simp [redx, hy]) h
    obtain rfl := ldr_nil h1
    obtain ⟨q2, r3, h6, rfl, -⟩ := ldr_split h2
    obtain ⟨q3, r4, h8, rfl, -⟩ := ldr_split h6
    obtain rfl := ldr_nil h8
    exact .iff _ q2.1 q3.1 q2.2 q3.2 hx rfl hy ⟨hB.2.2.2.1, hB.2.2.2.2.1, hB.2.2.2.2.2.1, trivial⟩ hB.2.2.2.2.2.2
theorem ldr_B : ∀ {a a' : F}, a.ok → a.flat.length ≤ 600 → ldr a a' → a'.okB (99 + 600 * a.flat.length)
  | .nil, a', _, _, h => by rw [ldr_nil h]; trivial
  | .cons y ky r, a', hok, hl, h => by
    have hf : (F.cons y ky r).flat.length = ky.flat.length + r.flat.length + 1 := by simp [F.flat]
    rw [hf] at hl ⊢
    simp only [ldr] at h
    obtain ⟨ky', r', h1, h2, h6, h4⟩ := h
    have hr := ldr_B hok.2.2.2 (by omega) h2
    have hk := ldr_B hok.2.2.1 (by omega) h1
    rcases h4 with rfl | ⟨hrd, p, hp, rfl⟩
    · exact ⟨gB_mono (gB_of hok.1) (by omega), by rw [ldr_len h1]; exact hok.2.1, okB_mono (by omega) hk, okB_mono (by omega) hr⟩
    · have := (ctrO_B (ldr_red ⟨hok.1, hok.2.1, hok.2.2.1⟩ hrd h1 hk) (by omega) (by omega) h6 hp).1
      exact ⟨gB_mono this.1 (by omega), this.2.1, okB_mono (by omega) this.2.2.1, okB_mono (by omega) hr⟩
theorem okB_ard {B : Int} : ∀ {a : F}, a.okB B → a.ard
  | .nil, _ => trivial
  | .cons x k r, h => ⟨h.2.1, okB_ard h.2.2.1, okB_ard h.2.2.2⟩

theorem ldA_mem {l : List (Cc × F)} {p q : Cc × F} (h : q ∈ ldA l p) : q ∈ l ∨ q = p := by
  unfold ldA at h
  split at h
  · exact .inl h
  · rw [List.mem_append, List.mem_singleton] at h; exact h
theorem ldC_mem (x : Cc) : ∀ (ws : List F) (out res : List (Cc × F)), ldC x out ws = some res → ∀ q ∈ res, q ∈ out ∨ ∃ w ∈ ws, ctrO x w = some q
  | [], out, res, h, q, hq => by simp only [ldC, Option.some.injEq] at h; rw [h]; exact .inl hq
  | w :: r, out, res, h, q, hq => by
    rw [ldC] at h
    cases hc : ctrO x w with
    | none => rw [hc] at h; cases h
    | some p =>
      rw [hc] at h
      rcases ldC_mem x r _ res h q hq with h1 | ⟨v, hv, h2⟩
      · rcases ldA_mem h1 with h3 | rfl
        · exact .inl h3
        · exact .inr ⟨w, by simp, hc⟩
      · exact .inr ⟨v, by simp [hv], h2⟩
theorem ldX_mem {x : Cc} {k : F} {ws : List F} {l : List (Cc × F)} (hw : ∀ w ∈ ws, ldr k w) (h : ldX x (redx x k) ws = some l) : ∀ p ∈ l, ldr (.cons x k .nil) (.cons p.1 p.2 .nil) := by
  intro p hp
  unfold ldX at h
  split at h
  · cases h
  · rename_i h6
    have h6' : ∀ w ∈ ws, w.flat.length + 1 ≤ 600 := fun w hw' => by
      apply Classical.byContradiction
      intro hn
      exact h6 ⟨w, hw', by omega⟩
    split at h
    · rename_i hrd
      cases hc : ldC x (ws.map fun w => (x, w)) ws with
      | none => rw [hc] at h; cases h
      | some out =>
        rw [hc] at h
        simp only at h
        split at h
        · simp only [Option.some.injEq] at h
          rw [← h] at hp
          rcases ldC_mem x _ _ _ hc p hp with h1 | ⟨w, hw1, hw2⟩
          · rw [List.mem_map] at h1
            obtain ⟨w, hw1, rfl⟩ := h1
            simp only [ldr]
            exact ⟨w, .nil, hw w hw1, rfl, h6' w hw1, .inl rfl⟩
          · simp only [ldr]
            exact ⟨w, .nil, hw w hw1, rfl, h6' w hw1, .inr ⟨hrd, p, hw2, rfl⟩⟩
        · cases h
    · split at h
      · simp only [Option.some.injEq] at h
        rw [← h, List.mem_map] at hp
        obtain ⟨w, hw1, rfl⟩ := hp
        simp only [ldr]
        exact ⟨w, .nil, hw w hw1, rfl, h6' w hw1, .inl rfl⟩
      · cases h
theorem ldr_cons {x : Cc} {k r r' : F} {p : Cc × F} (h : ldr (.cons x k .nil) (.cons p.1 p.2 .nil)) (hr : ldr r r') : ldr (.cons x k r) (.cons p.1 p.2 r') := by
  simp only [ldr] at h ⊢
  obtain ⟨ky', r2, h1, h2, h3, h4 | ⟨h5, q, h6, h7⟩⟩ := h
  · simp only [F.cons.injEq] at h4
    exact ⟨ky', r', h1, hr, h3, .inl (by rw [h4.1, h4.2.1])⟩
  · simp only [F.cons.injEq] at h7
    exact ⟨ky', r', h1, hr, h3, .inr ⟨h5, q, h6, by rw [h7.1, h7.2.1]⟩⟩
theorem ldG_mem : ∀ (a : F) (ws us : List F), ldG ws a = some us → ∀ u ∈ us, ∃ w ∈ ws, ∃ a', u = w.app a' ∧ ldr a a'
  | .nil, ws, us, h, u, hu => by
    simp only [ldG, Option.some.injEq] at h
    rw [← h] at hu
    exact ⟨u, hu, .nil, (F.app_nil u).symm, rfl⟩
  | .cons x k r, ws, us, h, u, hu => by
    rw [ldG_cons] at h
    cases ht : ldT x k with
    | none => rw [ht] at h; cases h
    | some l =>
      rw [ht] at h
      simp only at h
      split at h
      · cases h
      · obtain ⟨v, hv, r', rfl, hr⟩ := ldG_mem r _ us h u hu
        unfold ldW at hv
        rw [List.mem_flatMap] at hv
        obtain ⟨w, hw, hv⟩ := hv
        rw [List.mem_map] at hv
        obtain ⟨p, hp, rfl⟩ := hv
        refine ⟨w, hw, .cons p.1 p.2 r', by rw [F.app_assoc]; rfl, ?_⟩
        unfold ldT at ht
        cases hg : ldG [.nil] k with
        | none => rw [hg] at ht; cases ht
        | some vs =>
          rw [hg] at ht
          refine ldr_cons (ldX_mem (fun w hw => ?_) ht p hp) hr
          obtain ⟨w0, hw0, a', rfl, ha⟩ := ldG_mem k _ vs hg w hw
          rw [List.mem_singleton] at hw0
          rw [hw0]
          exact ha
theorem ldT_mem {x : Cc} {k : F} {l : List (Cc × F)} (h : ldT x k = some l) : ∀ p ∈ l, ldr (.cons x k .nil) (.cons p.1 p.2 .nil) := by
  unfold ldT at h
  cases hg : ldG [.nil] k with
  | none => rw [hg] at h; cases h
  | some vs =>
    rw [hg] at h
    refine ldX_mem (fun w hw => ?_) h
    obtain ⟨w0, hw0, a', rfl, ha⟩ := ldG_mem k _ vs hg w hw
    rw [List.mem_singleton] at hw0
    rw [hw0]
    exact ha
end Go.Proofs.Ytjalakdpmglamaa.W

/-
  Handled trees: the model of HandleComp. No conditions.
-/
import Derived.Test.YtaddopoafaojdaaCoL
import Derived.Test.YtaddopoafaojdaaHaG
namespace Go.Proofs.Ytaddopoafaojdaa.C
open Go.Proofs.Ytaddopoafaojdaa.W
open Go.ChangeShapes Go.WideShapes Go.ChangeAt Go.RowKit
set_option linter.unusedVariables false

/-- How many numbers a tree may tell. -/
def Tr.lvs : Tr → Nat
  | .ret _ => 1
  | .ask _ a b => a.lvs + b.lvs
/-- In the place of each number told the second one, that number being added. -/
def Tr.wit (x y : Tr) : Tr := x.thn fun n => y.add n
theorem Tr.wit_len (y : Tr) : ∀ x : Tr, (x.wit y).flat.length = x.flat.length + x.lvs * (y.flat.length - 1)
  | .ret n => by
    show (y.add n).flat.length = 1 + 1 * (y.flat.length - 1)
    rw [Tr.add_len]
    have := y.flat_pos
    omega
  | .ask n a b => by
    have h1 := Tr.wit_len y a
    have h2 := Tr.wit_len y b
    show ((⟨2, n⟩ : Cc) :: ((a.wit y).flat ++ (b.wit y).flat)).length = ((⟨2, n⟩ : Cc) :: (a.flat ++ b.flat)).length + (a.lvs + b.lvs) * (y.flat.length - 1)
    simp only [List.length_cons, List.length_append, Nat.add_mul]
    omega
theorem Tr.lvs_le : ∀ x : Tr, x.lvs ≤ x.flat.length
  | .ret n => Nat.le_refl _
  | .ask n a b => by
    have h1 := Tr.lvs_le a
    have h2 := Tr.lvs_le b
    show a.lvs + b.lvs ≤ ((⟨2, n⟩ : Cc) :: (a.flat ++ b.flat)).length
    simp only [List.length_cons, List.length_append]
    omega
theorem Tr.wit_ok {x y : Tr} (hx : x.ok) (hy : y.ok) : (x.wit y).ok := Tr.thn_ok _ (fun n _ _ => Tr.add_ok n y hy) x hx
theorem Tr.wit_fol {x y : Tr} (hx : x.ok) : fol (fun n => y.flat.map (mp n)) x.flat = (x.wit y).flat := Tr.thn_flat _ _ (fun n _ _ => (Tr.add_flat n y).symm) x hx
/-- Both of them, the second in the place of what the first one tells. -/
def bth : Option Tr → Option Tr → Option Tr
  | some x, some y => if (x.wit y).flat.length ≤ 60 then some (x.wit y) else none
  | _, _ => none
/-- The operation asked again. -/
def pas (n : Int) : Option Tr → Option Tr → Option Tr
  | some x, some y => if 1 + x.flat.length + y.flat.length ≤ 60 then some (.ask n x y) else none
  | _, _ => none
/-- The rule of an operation. -/
def ruAt (h : Hd) (n : Int) : Ru := (h.rs[n.toNat]?).getD ⟨0, 0⟩
/-- A tree handled. -/
def Tr.hnd (h : Hd) : Tr → Option Tr
  | .ret n => some (.ret ((n + h.ret) % 100))
  | .ask n a b => if (ruAt h n).kd = 1 then a.hnd h else if (ruAt h n).kd = 2 then b.hnd h else if (ruAt h n).kd = 3 then bth (a.hnd h) (b.hnd h) else if (ruAt h n).kd = 4 then some (.ret (ruAt h n).n) else pas n (a.hnd h) (b.hnd h)
theorem ruAt_good {h : Hd} (hg : goodH h = true) {n : Int} (h0 : 0 ≤ n) (h1 : n ≤ 2) : ∃ hh : n.toNat < h.rs.length, ruAt h n = h.rs[n.toNat] ∧ goodRu (ruAt h n) = true := by
  obtain ⟨-, -, h3, hr⟩ := goodH_parts hg
  have hh : n.toNat < h.rs.length := by omega
  have e : ruAt h n = h.rs[n.toNat] := by unfold ruAt; rw [List.getElem?_eq_getElem hh]; rfl
  exact ⟨hh, e, by rw [e]; exact hr _ (List.getElem_mem hh)⟩
theorem Tr.ask_in {n : Int} {a b : Tr} (h : (Tr.ask n a b).ok) : (0 ≤ n ∧ n ≤ 2) ∧ a.ok ∧ b.ok := ⟨by simpa [inB] using h.1, h.2.1, h.2.2⟩
theorem hnd_ok {h : Hd} (hg : goodH h = true) : ∀ (t z : Tr), t.ok → t.hnd h = some z → z.ok ∧ z.flat.length ≤ 60
  | .ret n, z, hok, e => by
    obtain ⟨q0, q1, -, -⟩ := goodH_parts hg
    have hn : 0 ≤ n ∧ n ≤ 99 := by simpa [Tr.ok, inB] using hok
    simp only [Tr.hnd, Option.some.injEq] at e
    subst e
    refine ⟨?_, by simp [Tr.flat]⟩
    show inB ((n + h.ret) % 100) 0 99 = true
    simp only [inB, Bool.and_eq_true, decide_eq_true_eq]
    omega
  | .ask n a b, z, hok, e => by
    obtain ⟨⟨n0, n2⟩, ha, hb⟩ := Tr.ask_in hok
    obtain ⟨hh, -, hgr⟩ := ruAt_good hg n0 n2
    obtain ⟨hk, hk4, -⟩ := goodRu_kinds hgr
    have iha := fun z e => hnd_ok hg a z ha e
    have ihb := fun z e => hnd_ok hg b z hb e
    unfold Tr.hnd at e
    split at e
    · exact iha z e
    · split at e
      · exact ihb z e
      · split at e
        · cases ea : a.hnd h with
          | none => rw [ea] at e; simp [bth] at e
          | some x =>
            cases eb : b.hnd h with
            | none => rw [ea, eb] at e; simp [bth] at e
            | some y =>
              rw [ea, eb] at e
              unfold bth at e
              simp only at e
              split at e
              · rename_i h6
                simp only [Option.some.injEq] at e
                subst e
                exact ⟨Tr.wit_ok (iha x ea).1 (ihb y eb).1, h6⟩
              · cases e
        · split at e
          · rename_i h4
            simp only [Option.some.injEq] at e
            subst e
            refine ⟨?_, by simp [Tr.flat]⟩
            have h5 := hk4 h4
            show inB (ruAt h n).n 0 99 = true
            simp only [inB, Bool.and_eq_true, decide_eq_true_eq]
            omega
          · cases ea : a.hnd h with
            | none => rw [ea] at e; simp [pas] at e
            | some x =>
              cases eb : b.hnd h with
              | none => rw [ea, eb] at e; simp [pas] at e
              | some y =>
                rw [ea, eb] at e
                unfold pas at e
                simp only at e
                split at e
                · rename_i h6
                  simp only [Option.some.injEq] at e
                  subst e
                  refine ⟨⟨hok.1, (iha x ea).1, (ihb y eb).1⟩, ?_⟩
                  show ((⟨2, n⟩ : Cc) :: (x.flat ++ y.flat)).length ≤ 60
                  simp only [List.length_cons, List.length_append]
                  omega
                · cases e
/-- What is told of it. -/
def oF : Option Tr → List Cc
  | some z => z.flat
  | none => []
theorem oF_len {h : Hd} (hg : goodH h = true) {t : Tr} (hok : t.ok) : (oF (t.hnd h)).length ≤ 60 := by
  cases e : t.hnd h with
  | none => simp [oF]
  | some z => exact (hnd_ok hg t z hok e).2
end Go.Proofs.Ytaddopoafaojdaa.C

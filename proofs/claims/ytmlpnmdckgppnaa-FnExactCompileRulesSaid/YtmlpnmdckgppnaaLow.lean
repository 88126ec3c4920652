/-
  Contracts of the small functions of chapter 1, of the program and of its specification: letters, digits, blanks, bounds, prefixes, the signs, the longest sign that stands somewhere, and how far a run of bytes goes. Conditions: texts are shorter than 2^62 bytes.
-/
import Derived.Test.YtmlpnmdckgppnaaRows
import Derived.WalkKit
import Derived.ProofKit
import Derived.OpenShut
import Derived.ShutString
import Derived.WalkLawsBesides
import Derived.WalkSpells
import Derived.LoopN
import Derived.Deep.QuietTactic
import Derived.BigQuiet
import Derived.Deep.RegionWith
import Derived.Laws.BytesArg
import Derived.Lib.Strings
namespace Go.Proofs.Ytmlpnmdckgppnaa.W
open Go.ChangeShapes Go.WideShapes Go.ChangeAt Go.RowKit

/-- The nineteen signs. -/
def sgs : List ByteArray := [⟨#[43]⟩, ⟨#[45]⟩, ⟨#[42]⟩, ⟨#[47]⟩, ⟨#[37]⟩, ⟨#[60]⟩, ⟨#[60, 61]⟩, ⟨#[61, 61]⟩, ⟨#[33, 61]⟩, ⟨#[61]⟩, ⟨#[38, 38]⟩, ⟨#[124, 124]⟩, ⟨#[33]⟩, ⟨#[40]⟩, ⟨#[41]⟩, ⟨#[44]⟩, ⟨#[59]⟩, ⟨#[45, 62]⟩, ⟨#[60, 60]⟩]

def sgCells : Array Value := (sgs.map Value.string).toArray
theorem sgs_len : sgs.length = 19 := rfl

/-- Block b is a row of these texts. -/
def Blk (w : World) (b : Nat) (ss : List ByteArray) : Prop := w.heap[b]? = some (.cells (ss.map Value.string).toArray 9)

/-- But for block b all is as it was; there may be new blocks. -/
structure Oth (b : Nat) (w w' : World) : Prop where
  os : w'.os = w.os
  tape : w'.tape = w.tape
  output : w'.output = w.output
  size : w.heap.size ≤ w'.heap.size
  block : ∀ k, k < w.heap.size → k ≠ b → w'.heap[k]? = w.heap[k]?

theorem Oth.refl (b : Nat) (w : World) : Oth b w w := ⟨rfl, rfl, rfl, Nat.le_refl _, fun _ _ _ => rfl⟩
theorem Oth.trans {b : Nat} {x y z : World} (h : Oth b x y) (k : Oth b y z) : Oth b x z :=
  ⟨k.os.trans h.os, k.tape.trans h.tape, k.output.trans h.output, Nat.le_trans h.size k.size, fun i hi hn => (k.block i (Nat.lt_of_lt_of_le hi h.size) hn).trans (h.block i hi hn)⟩
theorem Oth.ofBelow {b : Nat} {x y : World} (h : Below x.heap.size x y) : Oth b x y := ⟨h.os, h.tape, h.output, h.size, fun k hk _ => h.block k hk⟩
theorem Oth.setCell {b : Nat} {x y : World} (h : Oth b x y) (i : Nat) (v : Value) : Oth b x (y.setCell ⟨b, i, none⟩ v) :=
  h.trans ⟨rfl, rfl, rfl, by simp [World.setCell], fun k _ hn => Below.heap_setCell _ _ _ _ hn⟩
theorem Oth.below {b B : Nat} {x y : World} (h : Oth b x y) (hB : B ≤ x.heap.size) (hb : B ≤ b) : Below B x y := ⟨h.os, h.tape, h.output, h.size, fun k hk => h.block k (by omega) (by omega)⟩

theorem cell_of_blk {w : World} {g : Nat} {cs : Array Value} {t : TypeId} {fr : Nat × Nat} (h : w.heap[g]? = some (.cells cs t fr)) (i : Nat) : w.cell? ⟨g, i, none⟩ = cs[i]? := by simp [World.cell?, h]
theorem unfrozen_of_blk {w : World} {g : Nat} {cs : Array Value} {t : TypeId} (h : w.heap[g]? = some (.cells cs t (0, 0))) (i : Nat) : w.frozen? ⟨g, i, none⟩ = false := by simp [World.frozen?, h]
theorem blk_setCell {w : World} {g i : Nat} {cs : Array Value} {t : TypeId} {fr : Nat × Nat} (h : w.heap[g]? = some (.cells cs t fr)) (v : Value) : (w.setCell ⟨g, i, none⟩ v).heap[g]? = some (.cells (cs.setIfInBounds i v) t fr) := by
  simp [World.setCell, Array.getElem?_modify, h]

theorem Blk.cell {w : World} {b : Nat} {ss : List ByteArray} (h : Blk w b ss) {i : Nat} (hi : i < ss.length) : w.cell? ⟨b, i, none⟩ = some (.string ss[i]) := by
  rw [cell_of_blk h]; simp [hi]
theorem Blk.frozen {w : World} {b : Nat} {ss : List ByteArray} (h : Blk w b ss) (i : Nat) : w.frozen? ⟨b, i, none⟩ = false := unfrozen_of_blk h i
theorem Blk.lt {w : World} {b : Nat} {ss : List ByteArray} (h : Blk w b ss) : b < w.heap.size := (Array.getElem?_eq_some_iff.1 h).1
theorem Blk.set {w : World} {b : Nat} {ss : List ByteArray} (h : Blk w b ss) (i : Nat) (x : ByteArray) : Blk (w.setCell ⟨b, i, none⟩ (.string x)) b (ss.set i x) := by
  unfold Blk
  rw [blk_setCell h]
  simp
theorem Blk.below {w w' : World} {b B : Nat} {ss : List ByteArray} (h : Blk w b ss) (hb : Below B w w') (hB : b < B) : Blk w' b ss := by
  unfold Blk; rw [hb.block b hB]; exact h
theorem Blk.oth {w w' : World} {b c : Nat} {ss : List ByteArray} (h : Blk w b ss) (hb : Oth c w w') (hc : b ≠ c) : Blk w' b ss := by
  unfold Blk; rw [hb.block b h.lt hc]; exact h
theorem Blk.new (w : World) (ss : List ByteArray) : Blk (w.alloc (.cells (ss.map Value.string).toArray 9)) w.heap.size ss := by
  show (w.heap.push _)[w.heap.size]? = _
  simp

theorem hide {p : Prop} (h : p) : Hid p := h
theorem ret_bool {a b : Bool} (h : a = b) : Ending.returned (.bool a) = .returned (.bool b) := by rw [h]
theorem ret_int {k : IntKind} {a b : Int} (h : a = b) : Ending.returned (.int k a) = .returned (.int k b) := by rw [h]
theorem ret_str {a b : ByteArray} (h : a = b) : Ending.returned (.string a) = .returned (.string b) := by rw [h]

/-! ### bytes and runes -/
def letB (r : Int) : Bool := decide (97 ≤ r) && decide (r ≤ 122)
def digB (r : Int) : Bool := decide (48 ≤ r) && decide (r ≤ 57)
def blkB (r : Int) : Bool := decide (r = 32) || decide (r = 10)
def inB (n lo hi : Int) : Bool := decide (lo ≤ n) && decide (n ≤ hi)

set_option maxHeartbeats 400000 in
theorem l1In_any (n lo hi : Int) (w : World) :
    Calls Try.prog 42 #[.int .i64 n, .int .i64 lo, .int .i64 hi] w fun e w' => e = .returned (.bool (inB n lo hi)) ∧ w' = w := by
  go_enter Try.func42, Try.ntmps42
  go_wp2
  all_goals
    go_ret
    refine ⟨ret_bool ?_, rfl⟩
    simp [inB, *]
  all_goals omega

/-! ### signs -/
/-- x stands in s at this place. -/
def stands (s : ByteArray) (at_ : Nat) (x : ByteArray) : Bool := decide (at_ + x.size ≤ s.size) && ((s.extract at_ (at_ + x.size)).toList == x.toList)
def longer (s : ByteArray) (at_ : Nat) (b x : ByteArray) : ByteArray := if b.size < x.size ∧ stands s at_ x = true then x else b
def bestTo (s : ByteArray) (at_ k : Nat) : ByteArray := (sgs.take k).foldl (longer s at_) ⟨#[]⟩
def best (s : ByteArray) (at_ : Nat) : ByteArray := bestTo s at_ 19

theorem bestTo_succ (s : ByteArray) (at_ k : Nat) (h : k < sgs.length) : bestTo s at_ (k + 1) = longer s at_ (bestTo s at_ k) sgs[k] := by
  unfold bestTo
  rw [List.take_succ_eq_append_getElem h, List.foldl_append]
  rfl

theorem longer_yes {s : ByteArray} {at_ : Nat} {b x : ByteArray} (h1 : b.size < x.size) (h2 : stands s at_ x = true) : longer s at_ b x = x := if_pos ⟨h1, h2⟩
theorem longer_no {s : ByteArray} {at_ : Nat} {b x : ByteArray} (h2 : stands s at_ x = false) : longer s at_ b x = b := if_neg (by rw [h2]; simp)
theorem longer_no1 {s : ByteArray} {at_ : Nat} {b x : ByteArray} (h1 : ¬ b.size < x.size) : longer s at_ b x = b := if_neg (fun h => h1 h.1)

theorem stands_yes {s : ByteArray} {q : Nat} {x : ByteArray} (h1 : (q : Int) + (x.size : Int) ≤ (s.size : Int)) (h2 : ((s.extract q (q + x.size)).toList == x.toList) = true) : stands s q x = true := by
  unfold stands; rw [h2, decide_eq_true (by omega)]; rfl
theorem stands_no {s : ByteArray} {q : Nat} {x : ByteArray} (h2 : ((s.extract q (q + x.size)).toList == x.toList) = false) : stands s q x = false := by
  unfold stands; rw [h2]; simp
theorem stands_no1 {s : ByteArray} {q : Nat} {x : ByteArray} (h1 : ¬ (q : Int) + (x.size : Int) ≤ (s.size : Int)) : stands s q x = false := by
  unfold stands; rw [decide_eq_false (by omega)]; rfl

theorem sgs_size (k : Nat) (h : k < sgs.length) : sgs[k].size = 1 ∨ sgs[k].size = 2 := by
  have : ∀ x ∈ sgs, x.size = 1 ∨ x.size = 2 := by decide
  exact this _ (List.getElem_mem h)
theorem bestTo_size (s : ByteArray) (at_ k : Nat) (h : k ≤ sgs.length) : (bestTo s at_ k).size ≤ 2 := by
  induction k with
  | zero => simp [bestTo, ByteArray.size]
  | succ k ih =>
    rw [bestTo_succ _ _ _ (by omega)]
    unfold longer
    split
    · have := sgs_size k (by omega); omega
    · exact ih (by omega)

/-! ### runs -/
/-- How many bytes fit, from a place on, one behind the other. -/
def runFrom (p : Int → Bool) (s : ByteArray) (k : Nat) : Nat := ((s.data.toList.drop k).takeWhile fun b => p b.toNat).length
theorem runFrom_end (p : Int → Bool) (s : ByteArray) (k : Nat) (h : s.size ≤ k) : runFrom p s k = 0 := by
  unfold runFrom; rw [List.drop_of_length_le (by simpa using h)]; rfl
theorem runFrom_yes (p : Int → Bool) (s : ByteArray) (k : Nat) (h : k < s.size) (hp : p (s[k]'h).toNat = true) : runFrom p s k = runFrom p s (k + 1) + 1 := by
  unfold runFrom
  rw [List.drop_eq_getElem_cons (by simpa using h), List.takeWhile_cons_of_pos (by exact hp)]
  simp
theorem runFrom_no (p : Int → Bool) (s : ByteArray) (k : Nat) (h : k < s.size) (hp : p (s[k]'h).toNat = false) : runFrom p s k = 0 := by
  unfold runFrom
  rw [List.drop_eq_getElem_cons (by simpa using h), List.takeWhile_cons_of_neg (by simp only [Bool.not_eq_true]; exact hp)]
  rfl
theorem runFrom_le (p : Int → Bool) (s : ByteArray) (k : Nat) (h : k ≤ s.size) : k + runFrom p s k ≤ s.size := by
  unfold runFrom
  have := (List.takeWhile_sublist (fun b : UInt8 => p b.toNat) (l := s.data.toList.drop k)).length_le
  have h2 : (s.data.toList.drop k).length = s.size - k := by simp
  omega

theorem letB_lt (r : Int) (h : letB r = true) : r < 128 := by simp [letB] at h; omega
theorem digB_lt (r : Int) (h : digB r = true) : r < 128 := by simp [digB] at h; omega
theorem blkB_lt (r : Int) (h : blkB r = true) : r < 128 := by simp [blkB] at h; omega

theorem decode_yes (p : Int → Bool) (hp : ∀ r, p r = true → r < 128) (s : ByteArray) (pos : Nat) (h : pos < s.size) (hd : p ((Utf8.decode s pos).1 : Nat) = true) : (Utf8.decode s pos).2 = 1 ∧ p (s[pos]'h).toNat = true := by
  by_cases ha : (s[pos]'h).toNat < 128
  · rw [decode_ascii s pos h ha] at hd ⊢
    exact ⟨rfl, hd⟩
  · have h1 := (decode_high s pos h (by omega)).1
    have h2 := hp _ hd
    omega
theorem decode_no (p : Int → Bool) (hp : ∀ r, p r = true → r < 128) (s : ByteArray) (pos : Nat) (h : pos < s.size) (hd : p ((Utf8.decode s pos).1 : Nat) = false) : p (s[pos]'h).toNat = false := by
  by_cases ha : (s[pos]'h).toNat < 128
  · rw [decode_ascii s pos h ha] at hd
    exact hd
  · rw [Bool.eq_false_iff]
    intro hc
    have h2 := hp _ hc
    omega

theorem below_iter (w : World) (s : ByteArray) (pos : Nat) : Below w.heap.size w (w.iter s pos) := (Below.refl _ _).alloc (Nat.le_refl _) _

end Go.Proofs.Ytmlpnmdckgppnaa.W

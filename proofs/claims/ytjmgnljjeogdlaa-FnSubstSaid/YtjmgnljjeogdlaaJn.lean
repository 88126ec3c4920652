/-
  Some texts of this proof in one: TeY, TeJ.
-/
import Derived.Test.YtjmgnljjeogdlaaJi
import Derived.Test.YtjmgnljjeogdlaaJh
import Derived.Test.YtjmgnljjeogdlaaJj
/-
  Terms shifted: contracts of the specification's ShiftTerm, of the program's closure and of its ShiftTerm. Conditions: at most 1048576 cells.
-/
namespace Go.Proofs.Ytjmgnljjeogdlaa.W
open Go.ChangeShapes Go.WideShapes Go.ChangeAt Go.RowKit
set_option linter.unusedVariables false

/-- What the closure tells of a variable, and whether it falls below. -/
def shV (by_ : Int) (f : Nat) (_ : Bool) (n : Int) (d : Nat) : F := .cons ⟨1, if n - (d : Int) < (f : Int) then n else n + by_⟩ .nil .nil
def shB (by_ : Int) (f : Nat) (s : Bool) (n : Int) (d : Nat) : Bool := if n - (d : Int) < (f : Int) then s else s || decide (n - (d : Int) + by_ < (f : Int))
def boO (s : Bool) : Obj := .cells #[.bool s] 4 (0, 0)

theorem fnShift : ∀ args w, (callFunc 33 args).run Try.prog w = .ok (.enter 33 args) w := fun args w => by kernel_rfl

def inO (n : Int) : Obj := .cells #[.int .i64 n] 3 (0, 0)
/-- What the closure's variables hold. -/
def shO (by_ : Int) (f cb fb bb : Nat) (s : Bool) (w : World) : Prop := w.heap[cb]? = some (boO s) ∧ w.heap[fb]? = some (inO (f : Int)) ∧ w.heap[bb]? = some (inO by_)
theorem shO.inv {by_ : Int} {f cb fb bb c : Nat} {s : Bool} {w : World} (h : shO by_ f cb fb bb s w) : Inv c (shO by_ f cb fb bb s) w := Inv.and (Inv.blk h.1) (Inv.and (Inv.blk h.2.1) (Inv.blk h.2.2))

set_option maxRecDepth 20000 in
set_option maxHeartbeats 1000000 in
theorem chgShift (by_ : Int) (f : Nat) (hb1 : -50 ≤ by_) (hb2 : by_ ≤ 50) (hf : f ≤ 99) (cb fb bb : Nat) (hfc : fb ≠ cb) (hbc : bb ≠ cb) : ChgOK (σ := Bool) 33 #[.pointer (some ⟨fb, 0, none⟩), .pointer (some ⟨cb, 0, none⟩), .pointer (some ⟨bb, 0, none⟩)] cb (shO by_ f cb fb bb) (shV by_ f) (shB by_ f) := by
  intro s n d w h0 h1 hd hcb hinv
  obtain ⟨hb, hbf, hbb⟩ := hinv.get
  show Calls Try.prog 33 #[.agg #[.int .i64 n], .int .i64 (d : Int), .pointer (some ⟨fb, 0, none⟩), .pointer (some ⟨cb, 0, none⟩), .pointer (some ⟨bb, 0, none⟩)] w _
  have hcell : w.cell? ⟨cb, 0, none⟩ = some (.bool s) := (cell_of_blk hb 0).trans rfl
  have hfz : w.frozen? ⟨cb, 0, none⟩ = false := unfrozen_of_blk hb 0
  have hcf : w.cell? ⟨fb, 0, none⟩ = some (.int .i64 (f : Int)) := (cell_of_blk hbf 0).trans rfl
  have hcb' : w.cell? ⟨bb, 0, none⟩ = some (.int .i64 by_) := (cell_of_blk hbb 0).trans rfl
  have hlf : fb < w.heap.size := (Array.getElem?_eq_some_iff.1 hbf).1
  have hlb : bb < w.heap.size := (Array.getElem?_eq_some_iff.1 hbb).1
  have HB := hide hb
  have HF := hide hbf
  have HBB := hide hbb
  clear hb hbf hbb hinv
  by_cases hlow : n - (d : Int) < (f : Int)
  · have e1 : shV by_ f s n d = .cons ⟨1, n⟩ .nil .nil := by unfold shV; rw [if_pos hlow]
    have e2 : shB by_ f s n d = s := if_pos hlow
    rw [e1, e2]
    clear e1 e2
    go_enter Try.func33, Try.ntmps33
    go_wp2_with fail
    go_ret
    exact ⟨rfl, shO.inv ⟨(heap_alloc_old _ _ hcb).trans HB.out, (heap_alloc_old _ _ hlf).trans HF.out, (heap_alloc_old _ _ hlb).trans HBB.out⟩, Oth.alloc1 _ _ _⟩
  · have e1 : shV by_ f s n d = .cons ⟨1, n + by_⟩ .nil .nil := by unfold shV; rw [if_neg hlow]
    have e2 : shB by_ f s n d = (s || decide (n - (d : Int) + by_ < (f : Int))) := if_neg hlow
    rw [e1, e2]
    clear e1 e2
    go_enter Try.func33, Try.ntmps33
    go_wp2_with fail
    all_goals
      go_ret
      refine ⟨rfl, shO.inv ⟨?_, ?_, ?_⟩, ((Oth.refl cb w).setCell 0 _).trans (Oth.alloc1 _ _ _)⟩
      · rw [heap_alloc_old _ _ (by simp [World.setCell]; exact hcb), blk_setCell HB.out]; rfl
      · rw [heap_alloc_old _ _ (by simp [World.setCell]; exact hlf), Below.heap_setCell _ _ _ _ hfc]; exact HF.out
      · rw [heap_alloc_old _ _ (by simp [World.setCell]; exact hlb), Below.heap_setCell _ _ _ _ hbc]; exact HBB.out

/-! ### what is shifted, on both sides -/
def Bd (by_ : Int) (f : Nat) (l : List Int) : Bool := l.any fun m => decide ((f : Int) ≤ m) && decide (m + by_ < (f : Int))
theorem mem_put (l : List Int) (n x : Int) : x ∈ put l n ↔ x ∈ l ∨ x = n := by
  unfold put
  split
  · rename_i h
    have := List.mem_of_getElem? h
    constructor
    · exact .inl
    · rintro (h | rfl)
      · exact h
      · exact this
  · rw [List.mem_append, List.mem_cons]
    constructor
    · rintro (h | rfl | h)
      · exact .inl (List.mem_of_mem_take h)
      · exact .inr rfl
      · exact .inl (List.mem_of_mem_drop h)
    · rintro (h | rfl)
      · rw [← List.take_append_drop (putAt l n) l, List.mem_append] at h
        rcases h with h | h
        · exact .inl h
        · exact .inr (.inr h)
      · exact .inr (.inl rfl)
theorem Bd_put (by_ : Int) (f : Nat) (l : List Int) (n : Int) : Bd by_ f (put l n) = (Bd by_ f l || (decide ((f : Int) ≤ n) && decide (n + by_ < (f : Int)))) := by
  unfold Bd
  rw [Bool.eq_iff_iff]
  simp only [List.any_eq_true, Bool.or_eq_true]
  constructor
  · rintro ⟨x, hx, h⟩
    rcases (mem_put l n x).1 hx with hx | rfl
    · exact .inl ⟨x, hx, h⟩
    · exact .inr h
  · rintro (⟨x, hx, h⟩ | h)
    · exact ⟨x, (mem_put l n x).2 (.inl hx), h⟩
    · exact ⟨n, (mem_put l n n).2 (.inr rfl), h⟩
theorem shift_bits (by_ : Int) (f : Nat) : ∀ (a : F) (pk : Int) (d i : Nat) (o : List Int), a.ok → (wv (shV by_ f) (shB by_ f) pk d i a (Bd by_ f o)).2 = Bd by_ f (fre pk d i a o)
  | .nil, _, _, _, _, _ => rfl
  | .cons x k r, pk, d, i, o, h => by
    obtain ⟨g1, l1, o1, r1⟩ := ok_cons h
    by_cases hx : x.k = 1
    · have hk0 : k = .nil := F.len_0 (by rw [l1, hx]; rfl)
      have hs : shB by_ f (Bd by_ f o) x.n (d + binds pk i) = Bd by_ f (fr1 (d + binds pk i) x k o) := by
        unfold shB fr1
        by_cases hd : ((d + binds pk i : Nat) : Int) ≤ x.n
        · rw [if_pos (show x.k = 1 ∧ _ from ⟨hx, hd⟩), Bd_put]
          split
          · rename_i hl
            rw [decide_eq_false (show ¬ (f : Int) ≤ x.n - ((d + binds pk i : Nat) : Int) by omega)]; simp
          · rename_i hl
            rw [decide_eq_true (show (f : Int) ≤ x.n - ((d + binds pk i : Nat) : Int) by omega)]; simp
        · rw [if_pos (show x.n - ((d + binds pk i : Nat) : Int) < (f : Int) by omega), if_neg (fun hc => hd hc.2), hk0]
          rfl
      simp only [wv, hx, if_true]
      rw [hs, shift_bits by_ f r pk d (i + 1) _ r1, fre_cons]
    · have hs : fr1 (d + binds pk i) x k o = fre x.k (d + binds pk i) 0 k o := if_neg (fun hc => hx hc.1)
      simp only [wv, hx, if_false]
      rw [shift_bits by_ f k x.k (d + binds pk i) 0 o o1, shift_bits by_ f r pk d (i + 1) _ r1, fre_cons, hs]
theorem shift_tree (by_ : Int) (f : Nat) : ∀ (a : F) (pk : Int) (d i : Nat) (s : Bool), a.ok → (wv (shV by_ f) (shB by_ f) pk d i a s).1 = shf by_ pk (f + d) i a
  | .nil, _, _, _, _, _ => rfl
  | .cons x k r, pk, d, i, s, h => by
    obtain ⟨g1, l1, o1, r1⟩ := ok_cons h
    by_cases hx : x.k = 1
    · have hk0 : k = .nil := F.len_0 (by rw [l1, hx]; rfl)
      simp only [wv, hx, if_true, shf]
      rw [shift_tree by_ f r pk d (i + 1) _ r1, hk0]
      show F.cons _ .nil _ = _
      congr 1
      obtain ⟨xk, xn⟩ := x
      simp only at hx
      subst hx
      unfold shc
      by_cases hd : xn - ((d + binds pk i : Nat) : Int) < (f : Int)
      · rw [if_pos hd, if_neg (by simp; omega)]
      · rw [if_neg hd, if_pos (by simp; omega)]
    · simp only [wv, hx, if_false, shf]
      rw [shift_tree by_ f k x.k (d + binds pk i) 0 s o1, shift_tree by_ f r pk d (i + 1) _ r1]
      have : shc by_ (f + d + binds pk i) x = x := if_neg (fun hc => hx hc.1)
      rw [this, show f + (d + binds pk i) = f + d + binds pk i by omega]
theorem shf_fit (by_ : Int) : ∀ (a : F) (pk : Int) (f i : Nat), a.fit → (shf by_ pk f i a).fit
  | .nil, _, _, _, _ => trivial
  | .cons x k r, pk, f, i, ⟨h1, h2, h3, h4, h5⟩ => by
    have hk : (shc by_ (f + binds pk i) x).k = x.k := by unfold shc; split <;> rfl
    refine ⟨by rw [hk]; exact h1, fun h => ?_, by rw [hk, shf_len]; exact h3, shf_fit by_ k _ _ _ h4, shf_fit by_ r _ _ _ h5⟩
    rw [hk] at h
    have : shc by_ (f + binds pk i) x = x := if_neg (fun hc => by have := hc.1; omega)
    rw [this]; exact h2 h

/-- The cells of a shifted term; none where it is refused ahead. -/
def shR (l : List Cc) (by_ f : Int) : Option (List Cc) :=
  match treeT l with
  | some (.cons x k _) => if (inB by_ (-50) 50 && inB f 0 99 && !Bd by_ f.toNat (fr1 0 x k [])) = true then some (shc by_ f.toNat x :: (shf by_ x.k f.toNat 0 k).flat) else none
  | _ => none
def rL (r : Option (List Cc)) : List Cc := match r with | some cs => gd cs | none => []
def rB (r : Option (List Cc)) : Bool := match r with | some cs => goodT cs | none => false
/-- What both sides tell of such a result. -/
def RS (w : World) (r : Option (List Cc)) (e : Ending) (w' : World) : Prop := ∃ s', e = .returned (.tuple #[s', .bool (rB r)]) ∧ w'.ownsRow w.heap.size 62 2 s' (rL r).length (cv (rL r)) ∧ Below w.heap.size w w'
end Go.Proofs.Ytjmgnljjeogdlaa.W

/-
  The program's movedOut, and the closure of its substituted. Conditions: as the theorems state.
-/
namespace Go.Proofs.Ytjmgnljjeogdlaa.W
open Go.ChangeShapes Go.WideShapes Go.ChangeAt Go.RowKit
set_option linter.unusedVariables false

/-- What movedOut's closure tells of a variable. -/
def mvV (by_ : Int) (_ : Unit) (n : Int) (d : Nat) : F := shV by_ 0 false n d
def mvB (_ : Unit) (_ : Int) (_ : Nat) : Unit := ()
theorem fnMoved : ∀ args w, (callFunc 77 args).run Try.prog w = .ok (.enter 77 args) w := fun args w => by kernel_rfl
def mvO (by_ : Int) (bb : Nat) (_ : Unit) (w : World) : Prop := w.heap[bb]? = some (inO by_)

set_option maxRecDepth 20000 in
set_option maxHeartbeats 1000000 in
theorem chgMoved (by_ : Nat) (hb : by_ ≤ 1048576) (bb : Nat) : ChgOK (σ := Unit) 77 #[.pointer (some ⟨bb, 0, none⟩)] bb (mvO (by_ : Int) bb) (mvV (by_ : Int)) mvB := by
  intro s n d w h0 h1 hd hcb hinv
  have hbb : w.heap[bb]? = some (inO (by_ : Int)) := hinv.get
  show Calls Try.prog 77 #[.agg #[.int .i64 n], .int .i64 (d : Int), .pointer (some ⟨bb, 0, none⟩)] w _
  have hcell : w.cell? ⟨bb, 0, none⟩ = some (.int .i64 (by_ : Int)) := (cell_of_blk hbb 0).trans rfl
  have HB := hide hbb
  clear hbb hinv
  by_cases hlow : n < (d : Int)
  · have e1 : mvV (by_ : Int) s n d = .cons ⟨1, n⟩ .nil .nil := by unfold mvV shV; rw [if_pos (by omega)]
    rw [e1]
    clear e1
    go_enter Try.func77, Try.ntmps77
    go_wp2_with fail
    go_ret
    exact ⟨rfl, Inv.blk ((heap_alloc_old _ _ hcb).trans HB.out), Oth.alloc1 _ _ _⟩
  · have e1 : mvV (by_ : Int) s n d = .cons ⟨1, n + (by_ : Int)⟩ .nil .nil := by unfold mvV shV; rw [if_neg (by omega)]
    rw [e1]
    clear e1
    go_enter Try.func77, Try.ntmps77
    go_wp2_with fail
    go_ret
    exact ⟨rfl, Inv.blk ((heap_alloc_old _ _ hcb).trans HB.out), Oth.alloc1 _ _ _⟩

theorem moved_tree (by_ : Int) : ∀ (a : F) (pk : Int) (d i : Nat), a.ok → (wv (mvV by_) mvB pk d i a ()).1 = shf by_ pk d i a
  | .nil, _, _, _, _ => rfl
  | .cons x k r, pk, d, i, h => by
    obtain ⟨g1, l1, o1, r1⟩ := ok_cons h
    by_cases hx : x.k = 1
    · have hk0 : k = .nil := F.len_0 (by rw [l1, hx]; rfl)
      simp only [wv, hx, if_true, shf]
      rw [show mvB () x.n (d + binds pk i) = () from rfl, moved_tree by_ r pk d (i + 1) r1, hk0]
      show F.cons _ .nil _ = _
      congr 1
      obtain ⟨xk, xn⟩ := x
      simp only at hx
      subst hx
      unfold shc
      by_cases hd : xn - ((d + binds pk i : Nat) : Int) < ((0 : Nat) : Int)
      · rw [if_pos hd, if_neg (by simp; omega)]
      · rw [if_neg hd, if_pos (by simp; omega)]
    · simp only [wv, hx, if_false, shf]
      rw [moved_tree by_ k x.k (d + binds pk i) 0 o1]
      rw [moved_tree by_ r pk d (i + 1) r1]
      have : shc by_ (d + binds pk i) x = x := if_neg (fun hc => hx hc.1)
      rw [this]

set_option maxRecDepth 20000 in
set_option maxHeartbeats 1000000 in
theorem movedOut_some (x : Cc) (k : F) (d : Nat) (hd0 : ¬ d = 0) (hd : d ≤ 1048576) (hg : goodC x = true) (hk : k.len = ar x.k) (hko : k.ok) (hkf : k.flat.length ≤ 1048576) (w : World) :
    Calls Try.prog 54 #[pvT (.cons x k .nil), .int .i64 (d : Int)] w fun e w' => e = .returned (pvT (.cons (shc (d : Int) 0 x) (shf (d : Int) x.k 0 0 k) .nil)) ∧ Below w.heap.size w w' := by
  have hwv := withVariables_any (σ := Unit) 77 #[.pointer (some ⟨w.heap.size, 0, none⟩)] w.heap.size (mvO (d : Int) w.heap.size) (mvV (d : Int)) mvB fnMoved (chgMoved d hd w.heap.size) (fun _ _ _ => rfl) k x () 0 hg hk hko (by omega)
  have hpt : pvT (.cons x k .nil) = pv x.k x.n (pvs k) := rfl
  rw [← hpt] at hwv
  have hst1 : (W.w1 (mvV (d : Int)) mvB 0 x k ()).1 = .cons (shc (d : Int) 0 x) (shf (d : Int) x.k 0 0 k) .nil := by
    unfold W.w1
    rw [moved_tree (d : Int) (.cons x k .nil) 0 0 0 (show goodC x = true ∧ k.len = ar x.k ∧ k.ok ∧ F.nil.ok from ⟨hg, hk, hko, trivial⟩)]
    simp [shf, binds_0]
  unfold WVC at hwv
  rw [hst1] at hwv
  obtain ⟨T, u, hV⟩ := pvT_iface (a := F.cons (shc (d : Int) 0 x) (shf (d : Int) x.k 0 0 k) .nil) rfl
  obtain ⟨T0, u0, hV0⟩ := pvT_iface (a := .cons x k .nil) rfl
  rw [hV] at hwv ⊢
  rw [hV0] at hwv ⊢
  rw [show ((0 : Nat) : Int) = 0 from rfl] at hwv
  have HWV := hide hwv
  clear hwv hpt hst1 hV hV0
  have hd0' : ¬ (d : Int) = 0 := by omega
  go_enter Try.func54, Try.ntmps54
  go_wp2_with fail
  refine Calls.mono (HWV.out _ (by simp) (Inv.blk (heap_alloc_new w _))) ?_
  rintro e w1 ⟨rfl, hi1, ho1⟩
  have hB1 : Below w.heap.size w w1 := ((Below.refl _ _).alloc (Nat.le_refl _) _).trans (ho1.below (by simp) (by omega))
  clear hi1 ho1
  go_wp2_with fail
  go_ret
  exact ⟨rfl, hB1⟩

theorem shc_zero (f : Nat) (x : Cc) : shc 0 f x = x := by
  unfold shc
  split
  · simp
  · rfl
theorem shf_zero : ∀ (a : F) (pk : Int) (f i : Nat), shf 0 pk f i a = a
  | .nil, _, _, _ => rfl
  | .cons x k r, pk, f, i => by simp only [shf, shc_zero, shf_zero k, shf_zero r]

set_option maxHeartbeats 1000000 in
theorem movedOut_any (x : Cc) (k : F) (d : Nat) (hd : d ≤ 1048576) (hg : goodC x = true) (hk : k.len = ar x.k) (hko : k.ok) (hkf : k.flat.length ≤ 1048576) (w : World) :
    Calls Try.prog 54 #[pvT (.cons x k .nil), .int .i64 (d : Int)] w fun e w' => e = .returned (pvT (.cons (shc (d : Int) 0 x) (shf (d : Int) x.k 0 0 k) .nil)) ∧ Below w.heap.size w w' := by
  by_cases hd0 : d = 0
  · subst hd0
    rw [show ((0 : Nat) : Int) = 0 from rfl, shc_zero, shf_zero]
    obtain ⟨T0, u0, hV0⟩ := pvT_iface (a := .cons x k .nil) rfl
    rw [hV0]
    clear hV0 hg hk hko hkf hd
    go_enter Try.func54, Try.ntmps54
    go_wp2_with fail
    go_ret
    exact ⟨rfl, (Below.refl _ _).alloc (Nat.le_refl _) _⟩
  · exact movedOut_some x k d hd0 hd hg hk hko hkf w

/-! ### the closure of substituted -/
theorem fnSubst : ∀ args w, (callFunc 53 args).run Try.prog w = .ok (.enter 53 args) w := fun args w => by kernel_rfl
def sbV (K : Nat) (LS : Nat) (sx : Cc) (sk : F) (z : Int) (n : Int) (d : Nat) : F :=
  if n - (d : Int) < (K : Int) then .cons ⟨1, n⟩ .nil .nil else if (K : Int) < n - (d : Int) then .cons ⟨1, n - 1⟩ .nil .nil else if 600 < IntKind.i64.wrap (z + ((LS : Int) - 1)) then .cons ⟨1, n⟩ .nil .nil else .cons (shc (d : Int) 0 sx) (shf (d : Int) sx.k 0 0 sk) .nil
def sbB (K : Nat) (LS : Nat) (z : Int) (n : Int) (d : Nat) : Int :=
  if n - (d : Int) < (K : Int) then z else if (K : Int) < n - (d : Int) then z else IntKind.i64.wrap (z + ((LS : Int) - 1))
theorem sbV_len (K LS : Nat) (sx : Cc) (sk : F) : ∀ z n d, (sbV K LS sx sk z n d).len = 1 := fun z n d => by
  unfold sbV
  split
  · rfl
  · split
    · rfl
    · split <;> rfl
/-- What the closure's variables hold: k, the size, s, and s by its parts. -/
def sbO (K : Nat) (sl pt : Value) (kb zb sb pb : Nat) (z : Int) (w : World) : Prop := w.heap[zb]? = some (inO z) ∧ w.heap[kb]? = some (inO (K : Int)) ∧ w.heap[sb]? = some (.cells #[sl] 23 (0, 0)) ∧ w.heap[pb]? = some (.cells #[pt] 65 (0, 0))
theorem sbO.inv {K : Nat} {sl pt : Value} {kb zb sb pb c : Nat} {z : Int} {w : World} (h : sbO K sl pt kb zb sb pb z w) : Inv c (sbO K sl pt kb zb sb pb z) w := Inv.and (Inv.blk h.1) (Inv.and (Inv.blk h.2.1) (Inv.and (Inv.blk h.2.2.1) (Inv.blk h.2.2.2)))

set_option maxRecDepth 20000 in
set_option maxHeartbeats 2000000 in
theorem chgSubst (K LS : Nat) (hK : K ≤ 99) (hLS : LS ≤ 600) (sad : Option Addr) (sc : Nat) (sx : Cc) (sk : F) (hg : goodC sx = true) (hsk : sk.len = ar sx.k) (hsko : sk.ok) (hskf : sk.flat.length ≤ 1048576) (kb zb sb pb : Nat) (hkz : kb ≠ zb) (hsz : sb ≠ zb) (hpz : pb ≠ zb) :
    ChgOK (σ := Int) 53 #[.pointer (some ⟨kb, 0, none⟩), .pointer (some ⟨zb, 0, none⟩), .pointer (some ⟨sb, 0, none⟩), .pointer (some ⟨pb, 0, none⟩)] zb (sbO K (.slice sad LS sc) (pvT (.cons sx sk .nil)) kb zb sb pb) (sbV K LS sx sk) (sbB K LS) := by
  intro z n d w h0 h1 hd hcb hinv
  obtain ⟨hb, hbk, hbs, hbp⟩ := hinv.get
  show Calls Try.prog 53 #[.agg #[.int .i64 n], .int .i64 (d : Int), .pointer (some ⟨kb, 0, none⟩), .pointer (some ⟨zb, 0, none⟩), .pointer (some ⟨sb, 0, none⟩), .pointer (some ⟨pb, 0, none⟩)] w _
  have HMV := hide (movedOut_any sx sk d hd hg hsk hsko hskf)
  obtain ⟨T0, u0, hV0⟩ := pvT_iface (a := .cons sx sk .nil) rfl
  rw [hV0] at hbp HMV ⊢
  clear hV0
  have hcell : w.cell? ⟨zb, 0, none⟩ = some (.int .i64 z) := (cell_of_blk hb 0).trans rfl
  have hfz : w.frozen? ⟨zb, 0, none⟩ = false := unfrozen_of_blk hb 0
  have hck : w.cell? ⟨kb, 0, none⟩ = some (.int .i64 (K : Int)) := (cell_of_blk hbk 0).trans rfl
  have hcs : w.cell? ⟨sb, 0, none⟩ = some (.slice sad LS sc) := (cell_of_blk hbs 0).trans rfl
  have hcp : w.cell? ⟨pb, 0, none⟩ = some (.iface T0 u0) := (cell_of_blk hbp 0).trans rfl
  have hlk : kb < w.heap.size := (Array.getElem?_eq_some_iff.1 hbk).1
  have hls : sb < w.heap.size := (Array.getElem?_eq_some_iff.1 hbs).1
  have hlp : pb < w.heap.size := (Array.getElem?_eq_some_iff.1 hbp).1
  have HB := hide hb
  have HK := hide hbk
  have HS := hide hbs
  have HP := hide hbp
  clear hb hbk hbs hbp hinv hg hsk hsko hskf
  by_cases hlow : n - (d : Int) < (K : Int)
  · have e1 : sbV K LS sx sk z n d = .cons ⟨1, n⟩ .nil .nil := by unfold sbV; rw [if_pos hlow]
    have e2 : sbB K LS z n d = z := if_pos hlow
    rw [e1, e2]
    clear e1 e2 HMV
    go_enter Try.func53, Try.ntmps53
    go_wp2_with fail
    go_ret
    exact ⟨rfl, sbO.inv ⟨(heap_alloc_old _ _ hcb).trans HB.out, (heap_alloc_old _ _ hlk).trans HK.out, (heap_alloc_old _ _ hls).trans HS.out, (heap_alloc_old _ _ hlp).trans HP.out⟩, Oth.alloc1 _ _ _⟩
  · by_cases hhi : (K : Int) < n - (d : Int)
    · have e1 : sbV K LS sx sk z n d = .cons ⟨1, n - 1⟩ .nil .nil := by unfold sbV; rw [if_neg hlow, if_pos hhi]
      have e2 : sbB K LS z n d = z := by unfold sbB; rw [if_neg hlow, if_pos hhi]
      rw [e1, e2]
      clear e1 e2 HMV
      go_enter Try.func53, Try.ntmps53
      go_wp2_with fail
      go_ret
      exact ⟨rfl, sbO.inv ⟨(heap_alloc_old _ _ hcb).trans HB.out, (heap_alloc_old _ _ hlk).trans HK.out, (heap_alloc_old _ _ hls).trans HS.out, (heap_alloc_old _ _ hlp).trans HP.out⟩, Oth.alloc1 _ _ _⟩
    · have e2 : sbB K LS z n d = IntKind.i64.wrap (z + ((LS : Int) - 1)) := by unfold sbB; rw [if_neg hlow, if_neg hhi]
      obtain ⟨Z, hZ⟩ : ∃ Z, Z = IntKind.i64.wrap (z + ((LS : Int) - 1)) := ⟨_, rfl⟩
      have hq : ∀ o : Obj, sbO K (.slice sad LS sc) (.iface T0 u0) kb zb sb pb Z ((w.setCell ⟨zb, 0, none⟩ (.int .i64 Z)).alloc o) := fun o => by
        refine ⟨?_, ?_, ?_, ?_⟩
        · rw [heap_alloc_old _ _ (by simp [World.setCell]; exact hcb), blk_setCell HB.out]; rfl
        · rw [heap_alloc_old _ _ (by simp [World.setCell]; exact hlk), Below.heap_setCell _ _ _ _ hkz]; exact HK.out
        · rw [heap_alloc_old _ _ (by simp [World.setCell]; exact hls), Below.heap_setCell _ _ _ _ hsz]; exact HS.out
        · rw [heap_alloc_old _ _ (by simp [World.setCell]; exact hlp), Below.heap_setCell _ _ _ _ hpz]; exact HP.out
      have HQ := hide hq
      have HOt : Hid (∀ o : Obj, Oth zb w ((w.setCell ⟨zb, 0, none⟩ (.int .i64 Z)).alloc o)) := hide (fun o => ((Oth.refl zb w).setCell 0 _).trans (Oth.alloc1 _ _ _))
      clear hq
      by_cases hbig : 600 < Z
      · have e1 : sbV K LS sx sk z n d = .cons ⟨1, n⟩ .nil .nil := by unfold sbV; rw [if_neg hlow, if_neg hhi, if_pos (by rw [← hZ]; exact hbig)]
        rw [e1, e2, ← hZ]
        clear e1 e2 HMV
        have hZ' := hZ.symm
        clear hZ
        go_enter Try.func53, Try.ntmps53
        go_wp2_with fail
        go_ret
        exact ⟨rfl, sbO.inv (HQ.out _), HOt.out _⟩
      · have e1 : sbV K LS sx sk z n d = .cons (shc (d : Int) 0 sx) (shf (d : Int) sx.k 0 0 sk) .nil := by unfold sbV; rw [if_neg hlow, if_neg hhi, if_neg (by rw [← hZ]; exact hbig)]
        rw [e1, e2, ← hZ]
        clear e1 e2
        have hZ' := hZ.symm
        clear hZ
        go_enter Try.func53, Try.ntmps53
        go_wp2_with fail
        refine Calls.mono (HMV.out _) ?_
        rintro e w1 ⟨rfl, hb1⟩
        have HI1 := hide (sbO.inv (c := zb) (HQ.out (.cells #[.int .i64 n] 69)))
        have HI2 : Hid (Inv zb (sbO K (.slice sad LS sc) (.iface T0 u0) kb zb sb pb Z) w1) := hide (fun w' h1 h2 => HI1.out w' (Nat.le_trans hb1.size h1) (fun k hk => (h2 k (Nat.lt_of_lt_of_le hk hb1.size)).trans (hb1.block k hk)))
        have HO2 : Hid (Oth zb w w1) := hide ((HOt.out (.cells #[.int .i64 n] 69)).trans (Oth.ofBelow hb1))
        obtain ⟨T1, u1, hV1⟩ := pvT_iface (a := F.cons (shc (d : Int) 0 sx) (shf (d : Int) sx.k 0 0 sk) .nil) rfl
        rw [hV1]
        have HV1 := hide hV1
        clear hV1 hb1 HI1
        go_wp2_with fail
        go_ret
        exact ⟨by rw [HV1.out]; rfl, HI2.out, HO2.out⟩
end Go.Proofs.Ytjmgnljjeogdlaa.W

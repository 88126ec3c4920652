/-
  Some texts of this proof in one: TeY, TeJ, TeL, TeB.
-/
import Derived.Test.YtjmgnljjeogdlaaJae
import Derived.Test.YtjmgnljjeogdlaaJad
/-
  Terms shifted: contracts of the specification's ShiftTerm, of the program's closure and of its ShiftTerm. Conditions: at most 1048576 cells.
-/
namespace Go.Proofs.Ytjmgnljjeogdlaa.W
open Go.ChangeShapes Go.WideShapes Go.ChangeAt Go.RowKit
set_option linter.unusedVariables false

/-- What the closure tells of a variable, and whether it falls below. -/
def shV (by_ : Int) (f : Nat) (_ : Bool) (n : Int) (d : Nat) : F := .cons ⟨1, if n - (d : Int) < (f : Int) then n else n + by_⟩ .nil .nil
def shB (by_ : Int) (f : Nat) (s : Bool) (n : Int) (d : Nat) : Bool := if n - (d : Int) < (f : Int) then s else s || decide (n - (d : Int) + by_ < (f : Int))
def boO (s : Bool) : Obj := .cells #[.bool s] 4 (0, 0)

theorem fnShift : ∀ args w, (callFunc 33 args).run Try.prog w = .ok (.enter 33 args) w := fun args w => by kernel_rfl

def inO (n : Int) : Obj := .cells #[.int .i64 n] 3 (0, 0)
/-- What the closure's variables hold. -/
def shO (by_ : Int) (f cb fb bb : Nat) (s : Bool) (w : World) : Prop := w.heap[cb]? = some (boO s) ∧ w.heap[fb]? = some (inO (f : Int)) ∧ w.heap[bb]? = some (inO by_)
theorem shO.inv {by_ : Int} {f cb fb bb c : Nat} {s : Bool} {w : World} (h : shO by_ f cb fb bb s w) : Inv c (shO by_ f cb fb bb s) w := Inv.and (Inv.blk h.1) (Inv.and (Inv.blk h.2.1) (Inv.blk h.2.2))

set_option maxRecDepth 20000 in
set_option maxHeartbeats 1000000 in
theorem chgShift (by_ : Int) (f : Nat) (hb1 : -50 ≤ by_) (hb2 : by_ ≤ 50) (hf : f ≤ 99) (cb fb bb : Nat) (hfc : fb ≠ cb) (hbc : bb ≠ cb) : ChgOK (σ := Bool) 33 #[.pointer (some ⟨fb, 0, none⟩), .pointer (some ⟨cb, 0, none⟩), .pointer (some ⟨bb, 0, none⟩)] cb (shO by_ f cb fb bb) (shV by_ f) (shB by_ f) := by
  intro s n d w h0 h1 hd hcb hinv
  obtain ⟨hb, hbf, hbb⟩ := hinv.get
  show Calls Try.prog 33 #[.agg #[.int .i64 n], .int .i64 (d : Int), .pointer (some ⟨fb, 0, none⟩), .pointer (some ⟨cb, 0, none⟩), .pointer (some ⟨bb, 0, none⟩)] w _
  have hcell : w.cell? ⟨cb, 0, none⟩ = some (.bool s) := (cell_of_blk hb 0).trans rfl
  have hfz : w.frozen? ⟨cb, 0, none⟩ = false := unfrozen_of_blk hb 0
  have hcf : w.cell? ⟨fb, 0, none⟩ = some (.int .i64 (f : Int)) := (cell_of_blk hbf 0).trans rfl
  have hcb' : w.cell? ⟨bb, 0, none⟩ = some (.int .i64 by_) := (cell_of_blk hbb 0).trans rfl
  have hlf : fb < w.heap.size := (Array.getElem?_eq_some_iff.1 hbf).1
  have hlb : bb < w.heap.size := (Array.getElem?_eq_some_iff.1 hbb).1
  have HB := hide hb
  have HF := hide hbf
  have HBB := hide hbb
  clear hb hbf hbb hinv
  by_cases hlow : n - (d : Int) < (f : Int)
  · have e1 : shV by_ f s n d = .cons ⟨1, n⟩ .nil .nil := by unfold shV; rw [if_pos hlow]
    have e2 : shB by_ f s n d = s := if_pos hlow
    rw [e1, e2]
    clear e1 e2
    go_enter Try.func33, Try.ntmps33
    go_wp2_with fail
    go_ret
    exact ⟨rfl, shO.inv ⟨(heap_alloc_old _ _ hcb).trans HB.out, (heap_alloc_old _ _ hlf).trans HF.out, (heap_alloc_old _ _ hlb).trans HBB.out⟩, Oth.alloc1 _ _ _⟩
  · have e1 : shV by_ f s n d = .cons ⟨1, n + by_⟩ .nil .nil := by unfold shV; rw [if_neg hlow]
    have e2 : shB by_ f s n d = (s || decide (n - (d : Int) + by_ < (f : Int))) := if_neg hlow
    rw [e1, e2]
    clear e1 e2
    go_enter Try.func33, Try.ntmps33
    go_wp2_with fail
    all_goals
      go_ret
      refine ⟨rfl, shO.inv ⟨?_, ?_, ?_⟩, ((Oth.refl cb w).setCell 0 _).trans (Oth.alloc1 _ _ _)⟩
      · rw [heap_alloc_old _ _ (by simp [World.setCell]; exact hcb), blk_setCell HB.out]; rfl
      · rw [heap_alloc_old _ _ (by simp [World.setCell]; exact hlf), Below.heap_setCell _ _ _ _ hfc]; exact HF.out
      · rw [heap_alloc_old _ _ (by simp [World.setCell]; exact hlb), Below.heap_setCell _ _ _ _ hbc]; exact HBB.out

/-! ### what is shifted, on both sides -/
def Bd (by_ : Int) (f : Nat) (l : List Int) : Bool := l.any fun m => decide ((f : Int) ≤ m) && decide (m + by_ < (f : Int))
theorem mem_put (l : List Int) (n x : Int) : x ∈ put l n ↔ x ∈ l ∨ x = n := by
  unfold put
  split
  · rename_i h
    have := List.mem_of_getElem? h
    constructor
    · exact .inl
    · rintro (h | rfl)
      · exact h
      · exact this
  · rw [List.mem_append, List.mem_cons]
    constructor
    · rintro (h | rfl | h)
      · exact .inl (List.mem_of_mem_take h)
      · exact .inr rfl
      · exact .inl (List.mem_of_mem_drop h)
    · rintro (h | rfl)
      · rw [← List.take_append_drop (putAt l n) l, List.mem_append] at h
        rcases h with h | h
        · exact .inl h
        · exact .inr (.inr h)
      · exact .inr (.inl rfl)
theorem Bd_put (by_ : Int) (f : Nat) (l : List Int) (n : Int) : Bd by_ f (put l n) = (Bd by_ f l || (decide ((f : Int) ≤ n) && decide (n + by_ < (f : Int)))) := by
  unfold Bd
  rw [Bool.eq_iff_iff]
  simp only [List.any_eq_true, Bool.or_eq_true]
  constructor
  · rintro ⟨x, hx, h⟩
    rcases (mem_put l n x).1 hx with hx | rfl
    · exact .inl ⟨x, hx, h⟩
    · exact .inr h
  · rintro (⟨x, hx, h⟩ | h)
    · exact ⟨x, (mem_put l n x).2 (.inl hx), h⟩
    · exact ⟨n, (mem_put l n n).2 (.inr rfl), h⟩
theorem shift_bits (by_ : Int) (f : Nat) : ∀ (a : F) (pk : Int) (d i : Nat) (o : List Int), a.ok → (wv (shV by_ f) (shB by_ f) pk d i a (Bd by_ f o)).2 = Bd by_ f (fre pk d i a o)
  | .nil, _, _, _, _, _ => rfl
  | .cons x k r, pk, d, i, o, h => by
    obtain ⟨g1, l1, o1, r1⟩ := ok_cons h
    by_cases hx : x.k = 1
    · have hk0 : k = .nil := F.len_0 (by rw [l1, hx]; rfl)
      have hs : shB by_ f (Bd by_ f o) x.n (d + binds pk i) = Bd by_ f (fr1 (d + binds pk i) x k o) := by
        unfold shB fr1
        by_cases hd : ((d + binds pk i : Nat) : Int) ≤ x.n
        · rw [if_pos (show x.k = 1 ∧ _ from ⟨hx, hd⟩), Bd_put]
          split
          · rename_i hl
            rw [decide_eq_false (show ¬ (f : Int) ≤ x.n - ((d + binds pk i : Nat) : Int) by omega)]; simp
          · rename_i hl
            rw [decide_eq_true (show (f : Int) ≤ x.n - ((d + binds pk i : Nat) : Int) by omega)]; simp
        · rw [if_pos (show x.n - ((d + binds pk i : Nat) : Int) < (f : Int) by omega), if_neg (fun hc => hd hc.2), hk0]
          rfl
      simp only [wv, hx, if_true]
      rw [hs, shift_bits by_ f r pk d (i + 1) _ r1, fre_cons]
    · have hs : fr1 (d + binds pk i) x k o = fre x.k (d + binds pk i) 0 k o := if_neg (fun hc => hx hc.1)
      simp only [wv, hx, if_false]
      rw [shift_bits by_ f k x.k (d + binds pk i) 0 o o1, shift_bits by_ f r pk d (i + 1) _ r1, fre_cons, hs]
theorem shift_tree (by_ : Int) (f : Nat) : ∀ (a : F) (pk : Int) (d i : Nat) (s : Bool), a.ok → (wv (shV by_ f) (shB by_ f) pk d i a s).1 = shf by_ pk (f + d) i a
  | .nil, _, _, _, _, _ => rfl
  | .cons x k r, pk, d, i, s, h => by
    obtain ⟨g1, l1, o1, r1⟩ := ok_cons h
    by_cases hx : x.k = 1
    · have hk0 : k = .nil := F.len_0 (by rw [l1, hx]; rfl)
      simp only [wv, hx, if_true, shf]
      rw [shift_tree by_ f r pk d (i + 1) _ r1, hk0]
      show F.cons _ .nil _ = _
      congr 1
      obtain ⟨xk, xn⟩ := x
      simp only at hx
      subst hx
      unfold shc
      by_cases hd : xn - ((d + binds pk i : Nat) : Int) < (f : Int)
      · rw [if_pos hd, if_neg (by simp; omega)]
      · rw [if_neg hd, if_pos (by simp; omega)]
    · simp only [wv, hx, if_false, shf]
      rw [shift_tree by_ f k x.k (d + binds pk i) 0 s o1, shift_tree by_ f r pk d (i + 1) _ r1]
      have : shc by_ (f + d + binds pk i) x = x := if_neg (fun hc => hx hc.1)
      rw [this, show f + (d + binds pk i) = f + d + binds pk i by omega]
theorem shf_fit (by_ : Int) : ∀ (a : F) (pk : Int) (f i : Nat), a.fit → (shf by_ pk f i a).fit
  | .nil, _, _, _, _ => trivial
  | .cons x k r, pk, f, i, ⟨h1, h2, h3, h4, h5⟩ => by
    have hk : (shc by_ (f + binds pk i) x).k = x.k := by unfold shc; split <;> rfl
    refine ⟨by rw [hk]; exact h1, fun h => ?_, by rw [hk, shf_len]; exact h3, shf_fit by_ k _ _ _ h4, shf_fit by_ r _ _ _ h5⟩
    rw [hk] at h
    have : shc by_ (f + binds pk i) x = x := if_neg (fun hc => by have := hc.1; omega)
    rw [this]; exact h2 h

/-- The cells of a shifted term; none where it is refused ahead. -/
def shR (l : List Cc) (by_ f : Int) : Option (List Cc) :=
  match treeT l with
  | some (.cons x k _) => if (inB by_ (-50) 50 && inB f 0 99 && !Bd by_ f.toNat (fr1 0 x k [])) = true then some (shc by_ f.toNat x :: (shf by_ x.k f.toNat 0 k).flat) else none
  | _ => none
def rL (r : Option (List Cc)) : List Cc := match r with | some cs => gd cs | none => []
def rB (r : Option (List Cc)) : Bool := match r with | some cs => goodT cs | none => false
/-- What both sides tell of such a result. -/
def RS (w : World) (r : Option (List Cc)) (e : Ending) (w' : World) : Prop := ∃ s', e = .returned (.tuple #[s', .bool (rB r)]) ∧ w'.ownsRow w.heap.size 62 2 s' (rL r).length (cv (rL r)) ∧ Below w.heap.size w w'
end Go.Proofs.Ytjmgnljjeogdlaa.W

/-
  The program's movedOut, and the closure of its substituted. Conditions: as the theorems state.
-/
namespace Go.Proofs.Ytjmgnljjeogdlaa.W
open Go.ChangeShapes Go.WideShapes Go.ChangeAt Go.RowKit
set_option linter.unusedVariables false

/-- What movedOut's closure tells of a variable. -/
def mvV (by_ : Int) (_ : Unit) (n : Int) (d : Nat) : F := shV by_ 0 false n d
def mvB (_ : Unit) (_ : Int) (_ : Nat) : Unit := ()
theorem fnMoved : ∀ args w, (callFunc 77 args).run Try.prog w = .ok (.enter 77 args) w := fun args w => by kernel_rfl
def mvO (by_ : Int) (bb : Nat) (_ : Unit) (w : World) : Prop := w.heap[bb]? = some (inO by_)

set_option maxRecDepth 20000 in
set_option maxHeartbeats 1000000 in
theorem chgMoved (by_ : Nat) (hb : by_ ≤ 1048576) (bb : Nat) : ChgOK (σ := Unit) 77 #[.pointer (some ⟨bb, 0, none⟩)] bb (mvO (by_ : Int) bb) (mvV (by_ : Int)) mvB := by
  intro s n d w h0 h1 hd hcb hinv
  have hbb : w.heap[bb]? = some (inO (by_ : Int)) := hinv.get
  show Calls Try.prog 77 #[.agg #[.int .i64 n], .int .i64 (d : Int), .pointer (some ⟨bb, 0, none⟩)] w _
  have hcell : w.cell? ⟨bb, 0, none⟩ = some (.int .i64 (by_ : Int)) := (cell_of_blk hbb 0).trans rfl
  have HB := hide hbb
  clear hbb hinv
  by_cases hlow : n < (d : Int)
  · have e1 : mvV (by_ : Int) s n d = .cons ⟨1, n⟩ .nil .nil := by unfold mvV shV; rw [if_pos (by omega)]
    rw [e1]
    clear e1
    go_enter Try.func77, Try.ntmps77
    go_wp2_with fail
    go_ret
    exact ⟨rfl, Inv.blk ((heap_alloc_old _ _ hcb).trans HB.out), Oth.alloc1 _ _ _⟩
  · have e1 : mvV (by_ : Int) s n d = .cons ⟨1, n + (by_ : Int)⟩ .nil .nil := by unfold mvV shV; rw [if_neg (by omega)]
    rw [e1]
    clear e1
    go_enter Try.func77, Try.ntmps77
    go_wp2_with fail
    go_ret
    exact ⟨rfl, Inv.blk ((heap_alloc_old _ _ hcb).trans HB.out), Oth.alloc1 _ _ _⟩

theorem moved_tree (by_ : Int) : ∀ (a : F) (pk : Int) (d i : Nat), a.ok → (wv (mvV by_) mvB pk d i a ()).1 = shf by_ pk d i a
  | .nil, _, _, _, _ => rfl
  | .cons x k r, pk, d, i, h => by
    obtain ⟨g1, l1, o1, r1⟩ := ok_cons h
    by_cases hx : x.k = 1
    · have hk0 : k = .nil := F.len_0 (by rw [l1, hx]; rfl)
      simp only [wv, hx, if_true, shf]
      rw [show mvB () x.n (d + binds pk i) = () from rfl, moved_tree by_ r pk d (i + 1) r1, hk0]
      show F.cons _ .nil _ = _
      congr 1
      obtain ⟨xk, xn⟩ := x
      simp only at hx
      subst hx
      unfold shc
      by_cases hd : xn - ((d + binds pk i : Nat) : Int) < ((0 : Nat) : Int)
      · rw [if_pos hd, if_neg (by simp; omega)]
      · rw [if_neg hd, if_pos (by simp; omega)]
    · simp only [wv, hx, if_false, shf]
      rw [moved_tree by_ k x.k (d + binds pk i) 0 o1]
      rw [moved_tree by_ r pk d (i + 1) r1]
      have : shc by_ (d + binds pk i) x = x := if_neg (fun hc => hx hc.1)
      rw [this]

set_option maxRecDepth 20000 in
set_option maxHeartbeats 1000000 in
theorem movedOut_some (x : Cc) (k : F) (d : Nat) (hd0 : ¬ d = 0) (hd : d ≤ 1048576) (hg : goodC x = true) (hk : k.len = ar x.k) (hko : k.ok) (hkf : k.flat.length ≤ 1048576) (w : World) :
    Calls Try.prog 54 #[pvT (.cons x k .nil), .int .i64 (d : Int)] w fun e w' => e = .returned (pvT (.cons (shc (d : Int) 0 x) (shf (d : Int) x.k 0 0 k) .nil)) ∧ Below w.heap.size w w' := by
  have hwv := withVariables_any (σ := Unit) 77 #[.pointer (some ⟨w.heap.size, 0, none⟩)] w.heap.size (mvO (d : Int) w.heap.size) (mvV (d : Int)) mvB fnMoved (chgMoved d hd w.heap.size) (fun _ _ _ => rfl) k x () 0 hg hk hko (by omega)
  have hpt : pvT (.cons x k .nil) = pv x.k x.n (pvs k) := rfl
  rw [← hpt] at hwv
  have hst1 : (W.w1 (mvV (d : Int)) mvB 0 x k ()).1 = .cons (shc (d : Int) 0 x) (shf (d : Int) x.k 0 0 k) .nil := by
    unfold W.w1
    rw [moved_tree (d : Int) (.cons x k .nil) 0 0 0 (show goodC x = true ∧ k.len = ar x.k ∧ k.ok ∧ F.nil.ok from ⟨hg, hk, hko, trivial⟩)]
    simp [shf, binds_0]
  unfold WVC at hwv
  rw [hst1] at hwv
  obtain ⟨T, u, hV⟩ := pvT_iface (a := F.cons (shc (d : Int) 0 x) (shf (d : Int) x.k 0 0 k) .nil) rfl
  obtain ⟨T0, u0, hV0⟩ := pvT_iface (a := .cons x k .nil) rfl
  rw [hV] at hwv ⊢
  rw [hV0] at hwv ⊢
  rw [show ((0 : Nat) : Int) = 0 from rfl] at hwv
  have HWV := hide hwv
  clear hwv hpt hst1 hV hV0
  have hd0' : ¬ (d : Int) = 0 := by omega
  go_enter Try.func54, Try.ntmps54
  go_wp2_with fail
  refine Calls.mono (HWV.out _ (by simp) (Inv.blk (heap_alloc_new w _))) ?_
  rintro e w1 ⟨rfl, hi1, ho1⟩
  have hB1 : Below w.heap.size w w1 := ((Below.refl _ _).alloc (Nat.le_refl _) _).trans (ho1.below (by simp) (by omega))
  clear hi1 ho1
  go_wp2_with fail
  go_ret
  exact ⟨rfl, hB1⟩

theorem shc_zero (f : Nat) (x : Cc) : shc 0 f x = x := by
  unfold shc
  split
  · simp
  · rfl
theorem shf_zero : ∀ (a : F) (pk : Int) (f i : Nat), shf 0 pk f i a = a
  | .nil, _, _, _ => rfl
  | .cons x k r, pk, f, i => by simp only [shf, shc_zero, shf_zero k, shf_zero r]

set_option maxHeartbeats 1000000 in
theorem movedOut_any (x : Cc) (k : F) (d : Nat) (hd : d ≤ 1048576) (hg : goodC x = true) (hk : k.len = ar x.k) (hko : k.ok) (hkf : k.flat.length ≤ 1048576) (w : World) :
    Calls Try.prog 54 #[pvT (.cons x k .nil), .int .i64 (d : Int)] w fun e w' => e = .returned (pvT (.cons (shc (d : Int) 0 x) (shf (d : Int) x.k 0 0 k) .nil)) ∧ Below w.heap.size w w' := by
  by_cases hd0 : d = 0
  · subst hd0
    rw [show ((0 : Nat) : Int) = 0 from rfl, shc_zero, shf_zero]
    obtain ⟨T0, u0, hV0⟩ := pvT_iface (a := .cons x k .nil) rfl
    rw [hV0]
    clear hV0 hg hk hko hkf hd
    go_enter Try.func54, Try.ntmps54
    go_wp2_with fail
    go_ret
    exact ⟨rfl, (Below.refl _ _).alloc (Nat.le_refl _) _⟩
  · exact movedOut_some x k d hd0 hd hg hk hko hkf w

/-! ### the closure of substituted -/
theorem fnSubst : ∀ args w, (callFunc 53 args).run Try.prog w = .ok (.enter 53 args) w := fun args w => by kernel_rfl
def sbV (K : Nat) (LS : Nat) (sx : Cc) (sk : F) (z : Int) (n : Int) (d : Nat) : F :=
  if n - (d : Int) < (K : Int) then .cons ⟨1, n⟩ .nil .nil else if (K : Int) < n - (d : Int) then .cons ⟨1, n - 1⟩ .nil .nil else if 600 < IntKind.i64.wrap (z + ((LS : Int) - 1)) then .cons ⟨1, n⟩ .nil .nil else .cons (shc (d : Int) 0 sx) (shf (d : Int) sx.k 0 0 sk) .nil
def sbB (K : Nat) (LS : Nat) (z : Int) (n : Int) (d : Nat) : Int :=
  if n - (d : Int) < (K : Int) then z else if (K : Int) < n - (d : Int) then z else IntKind.i64.wrap (z + ((LS : Int) - 1))
theorem sbV_len (K LS : Nat) (sx : Cc) (sk : F) : ∀ z n d, (sbV K LS sx sk z n d).len = 1 := fun z n d => by
  unfold sbV
  split
  · rfl
  · split
    · rfl
    · split <;> rfl
/-- What the closure's variables hold: k, the size, s, and s by its parts. -/
def sbO (K : Nat) (sl pt : Value) (kb zb sb pb : Nat) (z : Int) (w : World) : Prop := w.heap[zb]? = some (inO z) ∧ w.heap[kb]? = some (inO (K : Int)) ∧ w.heap[sb]? = some (.cells #[sl] 23 (0, 0)) ∧ w.heap[pb]? = some (.cells #[pt] 65 (0, 0))
theorem sbO.inv {K : Nat} {sl pt : Value} {kb zb sb pb c : Nat} {z : Int} {w : World} (h : sbO K sl pt kb zb sb pb z w) : Inv c (sbO K sl pt kb zb sb pb z) w := Inv.and (Inv.blk h.1) (Inv.and (Inv.blk h.2.1) (Inv.and (Inv.blk h.2.2.1) (Inv.blk h.2.2.2)))

set_option maxRecDepth 20000 in
set_option maxHeartbeats 2000000 in
theorem chgSubst (K LS : Nat) (hK : K ≤ 99) (hLS : LS ≤ 600) (sad : Option Addr) (sc : Nat) (sx : Cc) (sk : F) (hg : goodC sx = true) (hsk : sk.len = ar sx.k) (hsko : sk.ok) (hskf : sk.flat.length ≤ 1048576) (kb zb sb pb : Nat) (hkz : kb ≠ zb) (hsz : sb ≠ zb) (hpz : pb ≠ zb) :
    ChgOK (σ := Int) 53 #[.pointer (some ⟨kb, 0, none⟩), .pointer (some ⟨zb, 0, none⟩), .pointer (some ⟨sb, 0, none⟩), .pointer (some ⟨pb, 0, none⟩)] zb (sbO K (.slice sad LS sc) (pvT (.cons sx sk .nil)) kb zb sb pb) (sbV K LS sx sk) (sbB K LS) := by
  intro z n d w h0 h1 hd hcb hinv
  obtain ⟨hb, hbk, hbs, hbp⟩ := hinv.get
  show Calls Try.prog 53 #[.agg #[.int .i64 n], .int .i64 (d : Int), .pointer (some ⟨kb, 0, none⟩), .pointer (some ⟨zb, 0, none⟩), .pointer (some ⟨sb, 0, none⟩), .pointer (some ⟨pb, 0, none⟩)] w _
  have HMV := hide (movedOut_any sx sk d hd hg hsk hsko hskf)
  obtain ⟨T0, u0, hV0⟩ := pvT_iface (a := .cons sx sk .nil) rfl
  rw [hV0] at hbp HMV ⊢
  clear hV0
  have hcell : w.cell? ⟨zb, 0, none⟩ = some (.int .i64 z) := (cell_of_blk hb 0).trans rfl
  have hfz : w.frozen? ⟨zb, 0, none⟩ = false := unfrozen_of_blk hb 0
  have hck : w.cell? ⟨kb, 0, none⟩ = some (.int .i64 (K : Int)) := (cell_of_blk hbk 0).trans rfl
  have hcs : w.cell? ⟨sb, 0, none⟩ = some (.slice sad LS sc) := (cell_of_blk hbs 0).trans rfl
  have hcp : w.cell? ⟨pb, 0, none⟩ = some (.iface T0 u0) := (cell_of_blk hbp 0).trans rfl
  have hlk : kb < w.heap.size := (Array.getElem?_eq_some_iff.1 hbk).1
  have hls : sb < w.heap.size := (Array.getElem?_eq_some_iff.1 hbs).1
  have hlp : pb < w.heap.size := (Array.getElem?_eq_some_iff.1 hbp).1
  have HB := hide hb
  have HK := hide hbk
  have HS := hide hbs
  have HP := hide hbp
  clear hb hbk hbs hbp hinv hg hsk hsko hskf
  by_cases hlow : n - (d : Int) < (K : Int)
  · have e1 : sbV K LS sx sk z n d = .cons ⟨1, n⟩ .nil .nil := by unfold sbV; rw [if_pos hlow]
    have e2 : sbB K LS z n d = z := if_pos hlow
    rw [e1, e2]
    clear e1 e2 HMV
    go_enter Try.func53, Try.ntmps53
    go_wp2_with fail
    go_ret
    exact ⟨rfl, sbO.inv ⟨(heap_alloc_old _ _ hcb).trans HB.out, (heap_alloc_old _ _ hlk).trans HK.out, (heap_alloc_old _ _ hls).trans HS.out, (heap_alloc_old _ _ hlp).trans HP.out⟩, Oth.alloc1 _ _ _⟩
  · by_cases hhi : (K : Int) < n - (d : Int)
    · have e1 : sbV K LS sx sk z n d = .cons ⟨1, n - 1⟩ .nil .nil := by unfold sbV; rw [if_neg hlow, if_pos hhi]
      have e2 : sbB K LS z n d = z := by unfold sbB; rw [if_neg hlow, if_pos hhi]
      rw [e1, e2]
      clear e1 e2 HMV
      go_enter Try.func53, Try.ntmps53
      go_wp2_with fail
      go_ret
      exact ⟨rfl, sbO.inv ⟨(heap_alloc_old _ _ hcb).trans HB.out, (heap_alloc_old _ _ hlk).trans HK.out, (heap_alloc_old _ _ hls).trans HS.out, (heap_alloc_old _ _ hlp).trans HP.out⟩, Oth.alloc1 _ _ _⟩
    · have e2 : sbB K LS z n d = IntKind.i64.wrap (z + ((LS : Int) - 1)) := by unfold sbB; rw [if_neg hlow, if_neg hhi]
      obtain ⟨Z, hZ⟩ : ∃ Z, Z = IntKind.i64.wrap (z + ((LS : Int) - 1)) := ⟨_, rfl⟩
      have hq : ∀ o : Obj, sbO K (.slice sad LS sc) (.iface T0 u0) kb zb sb pb Z ((w.setCell ⟨zb, 0, none⟩ (.int .i64 Z)).alloc o) := fun o => by
        refine ⟨?_, ?_, ?_, ?_⟩
        · rw [heap_alloc_old _ _ (by simp [World.setCell]; exact hcb), blk_setCell HB.out]; rfl
        · rw [heap_alloc_old _ _ (by simp [World.setCell]; exact hlk), Below.heap_setCell _ _ _ _ hkz]; exact HK.out
        · rw [heap_alloc_old _ _ (by simp [World.setCell]; exact hls), Below.heap_setCell _ _ _ _ hsz]; exact HS.out
        · rw [heap_alloc_old _ _ (by simp [World.setCell]; exact hlp), Below.heap_setCell _ _ _ _ hpz]; exact HP.out
      have HQ := hide hq
      have HOt : Hid (∀ o : Obj, Oth zb w ((w.setCell ⟨zb, 0, none⟩ (.int .i64 Z)).alloc o)) := hide (fun o => ((Oth.refl zb w).setCell 0 _).trans (Oth.alloc1 _ _ _))
      clear hq
      by_cases hbig : 600 < Z
      · have e1 : sbV K LS sx sk z n d = .cons ⟨1, n⟩ .nil .nil := by unfold sbV; rw [if_neg hlow, if_neg hhi, if_pos (by rw [← hZ]; exact hbig)]
        rw [e1, e2, ← hZ]
        clear e1 e2 HMV
        have hZ' := hZ.symm
        clear hZ
        go_enter Try.func53, Try.ntmps53
        go_wp2_with fail
        go_ret
        exact ⟨rfl, sbO.inv (HQ.out _), HOt.out _⟩
      · have e1 : sbV K LS sx sk z n d = .cons (shc (d : Int) 0 sx) (shf (d : Int) sx.k 0 0 sk) .nil := by unfold sbV; rw [if_neg hlow, if_neg hhi, if_neg (by rw [← hZ]; exact hbig)]
        rw [e1, e2, ← hZ]
        clear e1 e2
        have hZ' := hZ.symm
        clear hZ
        go_enter Try.func53, Try.ntmps53
        go_wp2_with fail
        refine Calls.mono (HMV.out _) ?_
        rintro e w1 ⟨rfl, hb1⟩
        have HI1 := hide (sbO.inv (c := zb) (HQ.out (.cells #[.int .i64 n] 69)))
        have HI2 : Hid (Inv zb (sbO K (.slice sad LS sc) (.iface T0 u0) kb zb sb pb Z) w1) := hide (fun w' h1 h2 => HI1.out w' (Nat.le_trans hb1.size h1) (fun k hk => (h2 k (Nat.lt_of_lt_of_le hk hb1.size)).trans (hb1.block k hk)))
        have HO2 : Hid (Oth zb w w1) := hide ((HOt.out (.cells #[.int .i64 n] 69)).trans (Oth.ofBelow hb1))
        obtain ⟨T1, u1, hV1⟩ := pvT_iface (a := F.cons (shc (d : Int) 0 sx) (shf (d : Int) sx.k 0 0 sk) .nil) rfl
        rw [hV1]
        have HV1 := hide hV1
        clear hV1 hb1 HI1
        go_wp2_with fail
        go_ret
        exact ⟨by rw [HV1.out]; rfl, HI2.out, HO2.out⟩
end Go.Proofs.Ytjmgnljjeogdlaa.W

/-
  What SubstTerm's walk makes of a term, by the model. No conditions but those that each theorem states.
-/
namespace Go.Proofs.Ytjmgnljjeogdlaa.W
open Go.ChangeShapes Go.WideShapes Go.ChangeAt Go.RowKit
set_option linter.unusedVariables false

theorem us_mul (a b c : Nat) : ((a + b) * c : Nat) = a * c + b * c := Nat.add_mul a b c
set_option maxRecDepth 20000 in
theorem subst_size (K LS L1 : Nat) (sx : Cc) (sk : F) (hL : (LS : Int) - 1 = (L1 : Int)) (hL1 : L1 ≤ 599) : ∀ (a : F) (pk : Int) (d i : Nat) (z : Int), a.ok → 0 ≤ z → z + ((a.flat.length * 599 : Nat) : Int) ≤ 1000000000 →
    (wv (sbV K LS sx sk) (sbB K LS) pk d i a z).2 = z + ((usf (K + d) pk i a * L1 : Nat) : Int)
  | .nil, _, _, _, z, _, _, _ => by simp [wv, usf]
  | .cons x k r, pk, d, i, z, h, hz, hb => by
    obtain ⟨g1, l1, o1, r1⟩ := ok_cons h
    have hfl : (F.cons x k r).flat.length = 1 + k.flat.length + r.flat.length := by simp [F.flat]; omega
    rw [hfl] at hb
    rw [usf_cons, us_mul, Nat.add_assoc K d (binds pk i)]
    by_cases hx : x.k = 1
    · have hk0 : k = .nil := F.len_0 (by rw [l1, hx]; rfl)
      simp only [wv, hx, if_true]
      by_cases he : x.n = ((K + (d + binds pk i) : Nat) : Int)
      · have hu : us1 (K + (d + binds pk i)) x k = 1 := if_pos ⟨hx, he⟩
        have hs : sbB K LS z x.n (d + binds pk i) = z + (L1 : Int) := by
          unfold sbB
          rw [if_neg (by omega), if_neg (by omega), hL, IntWalk.i64_in _ ⟨by omega, by omega⟩]
        rw [hs, hu, subst_size K LS L1 sx sk hL hL1 r pk d (i + 1) _ r1 (by omega) (by omega)]
        omega
      · have hu : us1 (K + (d + binds pk i)) x k = 0 := by unfold us1; rw [if_neg (fun hc => he hc.2), hk0]; rfl
        have hs : sbB K LS z x.n (d + binds pk i) = z := by
          unfold sbB
          split
          · rfl
          · rw [if_pos (by omega)]
        rw [hs, hu, subst_size K LS L1 sx sk hL hL1 r pk d (i + 1) _ r1 hz (by omega)]
        omega
    · have hu : us1 (K + (d + binds pk i)) x k = usf (K + (d + binds pk i)) x.k 0 k := if_neg (fun hc => hx hc.1)
      have hul := usf_le k x.k (K + (d + binds pk i)) 0
      have hm : usf (K + (d + binds pk i)) x.k 0 k * L1 ≤ k.flat.length * 599 := Nat.mul_le_mul hul hL1
      simp only [wv, hx, if_false]
      rw [subst_size K LS L1 sx sk hL hL1 k x.k (d + binds pk i) 0 z o1 hz (by omega), hu, subst_size K LS L1 sx sk hL hL1 r pk d (i + 1) _ r1 (by omega) (by omega)]
      omega
set_option maxRecDepth 20000 in
theorem subst_tree (K LS L1 : Nat) (sx : Cc) (sk : F) (hL : (LS : Int) - 1 = (L1 : Int)) (hL1 : L1 ≤ 599) : ∀ (a : F) (pk : Int) (d i : Nat) (z : Int), a.ok → 0 ≤ z → z + ((a.flat.length * 599 : Nat) : Int) ≤ 1000000000 →
    z + ((usf (K + d) pk i a * L1 : Nat) : Int) ≤ 600 → (wv (sbV K LS sx sk) (sbB K LS) pk d i a z).1 = sbf K sx sk pk d i a
  | .nil, _, _, _, z, _, _, _, _ => rfl
  | .cons x k r, pk, d, i, z, h, hz, hb, h6 => by
    obtain ⟨g1, l1, o1, r1⟩ := ok_cons h
    have hfl : (F.cons x k r).flat.length = 1 + k.flat.length + r.flat.length := by simp [F.flat]; omega
    rw [hfl] at hb
    rw [usf_cons, us_mul, Nat.add_assoc K d (binds pk i)] at h6
    rw [sbf_cons]
    by_cases hx : x.k = 1
    · have hk0 : k = .nil := F.len_0 (by rw [l1, hx]; rfl)
      simp only [wv, hx, if_true]
      by_cases he : x.n = ((K + (d + binds pk i) : Nat) : Int)
      · have hu : us1 (K + (d + binds pk i)) x k = 1 := if_pos ⟨hx, he⟩
        have hs : sbB K LS z x.n (d + binds pk i) = z + (L1 : Int) := by
          unfold sbB
          rw [if_neg (by omega), if_neg (by omega), hL, IntWalk.i64_in _ ⟨by omega, by omega⟩]
        rw [hu] at h6
        have hg : sbV K LS sx sk z x.n (d + binds pk i) = .cons (shc ((d + binds pk i : Nat) : Int) 0 sx) (shf ((d + binds pk i : Nat) : Int) sx.k 0 0 sk) .nil := by
          unfold sbV
          rw [if_neg (by omega), if_neg (by omega), hL, IntWalk.i64_in _ ⟨by omega, by omega⟩, if_neg (by omega)]
        rw [hs, hg, subst_tree K LS L1 sx sk hL hL1 r pk d (i + 1) _ r1 (by omega) (by omega) (by omega)]
        show F.cons _ _ _ = _
        congr 1
        · unfold sbr; rw [if_pos hx, if_pos (by rw [he]; omega)]
        · unfold sbk; rw [if_pos hx, if_pos (by rw [he]; omega)]
      · have hu : us1 (K + (d + binds pk i)) x k = 0 := by unfold us1; rw [if_neg (fun hc => he hc.2), hk0]; rfl
        have hs : sbB K LS z x.n (d + binds pk i) = z := by
          unfold sbB
          split
          · rfl
          · rw [if_pos (by omega)]
        rw [hu] at h6
        rw [hs, subst_tree K LS L1 sx sk hL hL1 r pk d (i + 1) _ r1 hz (by omega) (by omega)]
        have hkz : sbk K sx sk (d + binds pk i) x k = .nil := by unfold sbk; rw [if_pos hx, if_neg (by intro hc; apply he; rw [hc]; omega)]
        rw [hkz]
        by_cases hlow : x.n - ((d + binds pk i : Nat) : Int) < (K : Int)
        · have hg : sbV K LS sx sk z x.n (d + binds pk i) = .cons ⟨1, x.n⟩ .nil .nil := by unfold sbV; rw [if_pos hlow]
          rw [hg]
          show F.cons _ _ _ = _
          congr 1
          unfold sbr
          rw [if_pos hx, if_neg (by omega), if_neg (by omega)]
          obtain ⟨xk, xn⟩ := x
          simp only at hx
          rw [hx]
        · have hhi : (K : Int) < x.n - ((d + binds pk i : Nat) : Int) := by omega
          have hg : sbV K LS sx sk z x.n (d + binds pk i) = .cons ⟨1, x.n - 1⟩ .nil .nil := by unfold sbV; rw [if_neg hlow, if_pos hhi]
          rw [hg]
          show F.cons _ _ _ = _
          congr 1
          unfold sbr
          rw [if_pos hx, if_neg (by omega), if_pos (by omega)]
    · have hu : us1 (K + (d + binds pk i)) x k = usf (K + (d + binds pk i)) x.k 0 k := if_neg (fun hc => hx hc.1)
      have hul := usf_le k x.k (K + (d + binds pk i)) 0
      have hm : usf (K + (d + binds pk i)) x.k 0 k * L1 ≤ k.flat.length * 599 := Nat.mul_le_mul hul hL1
      rw [hu] at h6
      simp only [wv, hx, if_false]
      rw [subst_tree K LS L1 sx sk hL hL1 k x.k (d + binds pk i) 0 z o1 hz (by omega) (by omega), subst_size K LS L1 sx sk hL hL1 k x.k (d + binds pk i) 0 z o1 hz (by omega), subst_tree K LS L1 sx sk hL hL1 r pk d (i + 1) _ r1 (by omega) (by omega) (by omega)]
      have e1 : sbr K sx (d + binds pk i) x = x := by unfold sbr; rw [if_neg hx]
      have e2 : sbk K sx sk (d + binds pk i) x k = sbf K sx sk x.k (d + binds pk i) 0 k := by unfold sbk; rw [if_neg hx]
      rw [e1, e2]
end Go.Proofs.Ytjmgnljjeogdlaa.W

/-
  The program's substituted. Conditions: at most 1048576 cells.
-/
namespace Go.Proofs.Ytjmgnljjeogdlaa.W
open Go.ChangeShapes Go.WideShapes Go.ChangeAt Go.RowKit
set_option linter.unusedVariables false

/-- The cells of a term with another in the place of a variable; none where it is refused ahead. -/
def sbR (l : List Cc) (K : Int) (ls : List Cc) : Option (List Cc) :=
  match treeT l, treeT ls with
  | some (.cons x k _), some (.cons sx sk _) => if (inB K 0 99 && decide (l.length + us1 K.toNat x k * (ls.length - 1) ≤ 600)) = true then some (sbr K.toNat sx 0 x :: (sbk K.toNat sx sk 0 x k).flat) else none
  | _, _ => none
theorem sbf_fit (K : Nat) (sx : Cc) (sk : F) (hs : (F.cons sx sk .nil).fit) : ∀ (a : F) (pk : Int) (d i : Nat), a.fit → (sbf K sx sk pk d i a).fit
  | .nil, _, _, _, _ => trivial
  | .cons x k r, pk, d, i, ⟨h1, h2, h3, h4, h5⟩ => by
    rw [sbf_cons]
    have hr := sbf_fit K sx sk hs r pk d (i + 1) h5
    by_cases hx : x.k = 1
    · by_cases he : x.n = (K : Int) + ((d + binds pk i : Nat) : Int)
      · have e1 : sbr K sx (d + binds pk i) x = shc ((d + binds pk i : Nat) : Int) 0 sx := by unfold sbr; rw [if_pos hx, if_pos he]
        have e2 : sbk K sx sk (d + binds pk i) x k = shf ((d + binds pk i : Nat) : Int) sx.k 0 0 sk := by unfold sbk; rw [if_pos hx, if_pos he]
        rw [e1, e2]
        have := shf_fit ((d + binds pk i : Nat) : Int) (.cons sx sk .nil) 0 0 0 hs
        simp only [shf, binds_0, Nat.add_zero] at this
        obtain ⟨f1, f2, f3, f4, -⟩ := this
        exact ⟨f1, f2, f3, f4, hr⟩
      · have e2 : sbk K sx sk (d + binds pk i) x k = .nil := by unfold sbk; rw [if_pos hx, if_neg he]
        have e1 : (sbr K sx (d + binds pk i) x).k = 1 := by
          unfold sbr
          rw [if_pos hx, if_neg he]
          split
          · rfl
          · exact hx
        rw [e2]
        refine ⟨by rw [e1]; rw [hx] at h1; exact h1, fun h => by rw [e1] at h; omega, by rw [e1]; rfl, trivial, hr⟩
    · have e1 : sbr K sx (d + binds pk i) x = x := by unfold sbr; rw [if_neg hx]
      have e2 : sbk K sx sk (d + binds pk i) x k = sbf K sx sk x.k (d + binds pk i) 0 k := by unfold sbk; rw [if_neg hx]
      rw [e1, e2]
      exact ⟨h1, h2, by rw [sbf_len]; exact h3, sbf_fit K sx sk hs k _ _ _ h4, hr⟩

theorem sbf_flat (K : Nat) (sx : Cc) (sk : F) : ∀ (a : F) (pk : Int) (d i : Nat), a.ok → (sbf K sx sk pk d i a).flat.length = a.flat.length + usf (K + d) pk i a * sk.flat.length
  | .nil, _, _, _, _ => by simp [sbf, usf, F.flat]
  | .cons x k r, pk, d, i, h => by
    obtain ⟨g1, l1, o1, r1⟩ := ok_cons h
    have hr := sbf_flat K sx sk r pk d (i + 1) r1
    rw [sbf_cons, usf_cons, us_mul, Nat.add_assoc K d (binds pk i)]
    simp only [F.flat, List.length_cons, List.length_append]
    by_cases hx : x.k = 1
    · have hk0 : k = .nil := F.len_0 (by rw [l1, hx]; rfl)
      subst hk0
      by_cases he : x.n = (K : Int) + ((d + binds pk i : Nat) : Int)
      · have e2 : sbk K sx sk (d + binds pk i) x .nil = shf ((d + binds pk i : Nat) : Int) sx.k 0 0 sk := by unfold sbk; rw [if_pos hx, if_pos he]
        have e3 : us1 (K + (d + binds pk i)) x .nil = 1 := if_pos ⟨hx, by rw [he]; omega⟩
        rw [e2, e3, shf_flat, hr]
        simp [F.flat]
        omega
      · have e2 : sbk K sx sk (d + binds pk i) x .nil = .nil := by unfold sbk; rw [if_pos hx, if_neg he]
        have e3 : us1 (K + (d + binds pk i)) x .nil = 0 := by unfold us1; rw [if_neg (fun hc => he (by rw [hc.2]; omega))]; rfl
        rw [e2, e3, hr]
        simp [F.flat]
        omega
    · have e2 : sbk K sx sk (d + binds pk i) x k = sbf K sx sk x.k (d + binds pk i) 0 k := by unfold sbk; rw [if_neg hx]
      have e3 : us1 (K + (d + binds pk i)) x k = usf (K + (d + binds pk i)) x.k 0 k := if_neg (fun hc => hx hc.1)
      rw [e2, e3, hr, sbf_flat K sx sk k x.k (d + binds pk i) 0 o1]
      omega

/-- The cells of a term with another in the place of a variable; none where there are too many. -/
def sbU (l : List Cc) (K : Nat) (ls : List Cc) (x : Cc) (k : F) (sx : Cc) (sk : F) : Option (List Cc) :=
  if l.length + us1 K x k * (ls.length - 1) ≤ 600 then some (sbr K sx 0 x :: (sbk K sx sk 0 x k).flat) else none
/-- Cells that may be there, in memory of their own. -/
def RU (w : World) (r : Option (List Cc)) (e : Ending) (w' : World) : Prop := ∃ s', e = .returned (.tuple #[s', .bool r.isSome]) ∧ w'.ownsRow w.heap.size 62 2 s' (r.getD []).length (cv (r.getD [])) ∧ Below w.heap.size w w'
theorem belowDrw' {B : Nat} {x y : World} (h : Below B x y) : Below B x y.drew := ⟨h.os, h.tape, h.output, h.size, h.block⟩
theorem mkc (n : Nat) (hn : n ≤ 1048576) (w : World) :
    (Instr.makeSlice 23 (.int .i64 0) (.int .i64 (n : Int))).run Try.prog w = .ok (.slice (some ⟨w.heap.size, 0, none⟩) 0 n) (w.alloc (.cells (madeCells #[.int .i64 0, .int .i64 0] (n * 2)) 62)) := by
  obtain ⟨i, hi, hzz⟩ := Option.map_eq_some_iff.1 infoCe
  simp only [Prod.mk.injEq] at hzz
  obtain ⟨hz, hs, hb⟩ := hzz
  have := run_make (P := Try.prog) w 23 62 i _ Try.underlying23 hi hz .i64 .i64 0 n (by omega) (by omega) (by rw [hb]; omega) (by omega)
  rw [hs, show (Value.agg #[.int .i64 0, .int .i64 0]).cells = #[.int .i64 0, .int .i64 0] from by simp [Value.cells]] at this
  simpa using this

theorem na_var (u : Value) (w : World) : (nilAhead 245 69 u "loop.example/g00339/impl.cellsOnto").run Try.prog w = .ok (some false) w := by kernel_rfl
theorem na_num (u : Value) (w : World) : (nilAhead 245 125 u "loop.example/g00339/impl.cellsOnto").run Try.prog w = .ok (some false) w := by kernel_rfl
theorem na_lam (u : Value) (w : World) : (nilAhead 245 100 u "loop.example/g00339/impl.cellsOnto").run Try.prog w = .ok (some false) w := by kernel_rfl
theorem na_app (u : Value) (w : World) : (nilAhead 245 102 u "loop.example/g00339/impl.cellsOnto").run Try.prog w = .ok (some false) w := by kernel_rfl
theorem na_add (u : Value) (w : World) : (nilAhead 245 104 u "loop.example/g00339/impl.cellsOnto").run Try.prog w = .ok (some false) w := by kernel_rfl
theorem na_if (u : Value) (w : World) : (nilAhead 245 106 u "loop.example/g00339/impl.cellsOnto").run Try.prog w = .ok (some false) w := by kernel_rfl
theorem na_let (u : Value) (w : World) : (nilAhead 245 108 u "loop.example/g00339/impl.cellsOnto").run Try.prog w = .ok (some false) w := by kernel_rfl
/-- A part behind the interface is no nil pointer. -/
theorem naT {a : F} (h : a.fit) (h1 : a.len = 1) : ∀ T u, pvT a = .iface T u → ∀ w, (nilAhead 245 T u "loop.example/g00339/impl.cellsOnto").run Try.prog w = .ok (some false) w := by
  obtain ⟨x, k, rfl⟩ := F.len_1 h1
  obtain ⟨xk, xn⟩ := x
  obtain ⟨h1, -⟩ := h
  simp only [inB, Bool.and_eq_true, decide_eq_true_eq] at h1
  intro T u e w
  have e' : pv xk xn (pvs k) = .iface T u := e
  have hx : xk = 1 ∨ xk = 2 ∨ xk = 3 ∨ xk = 4 ∨ xk = 5 ∨ xk = 6 ∨ xk = 7 := by omega
  rcases hx with h | h | h | h | h | h | h <;> subst h
  · have e2 : Value.iface 69 _ = .iface T u := e'
    simp only [Value.iface.injEq] at e2
    obtain ⟨rfl, rfl⟩ := e2
    exact na_var _ w
  · have e2 : Value.iface 125 _ = .iface T u := e'
    simp only [Value.iface.injEq] at e2
    obtain ⟨rfl, rfl⟩ := e2
    exact na_num _ w
  · have e2 : Value.iface 100 _ = .iface T u := e'
    simp only [Value.iface.injEq] at e2
    obtain ⟨rfl, rfl⟩ := e2
    exact na_lam _ w
  · have e2 : Value.iface 102 _ = .iface T u := e'
    simp only [Value.iface.injEq] at e2
    obtain ⟨rfl, rfl⟩ := e2
    exact na_app _ w
  · have e2 : Value.iface 104 _ = .iface T u := e'
    simp only [Value.iface.injEq] at e2
    obtain ⟨rfl, rfl⟩ := e2
    exact na_add _ w
  · have e2 : Value.iface 106 _ = .iface T u := e'
    simp only [Value.iface.injEq] at e2
    obtain ⟨rfl, rfl⟩ := e2
    exact na_if _ w
  · have e2 : Value.iface 108 _ = .iface T u := e'
    simp only [Value.iface.injEq] at e2
    obtain ⟨rfl, rfl⟩ := e2
    exact na_let _ w

set_option maxRecDepth 20000 in
set_option maxHeartbeats 2000000 in
theorem substituted_any (ad sad : Option Addr) (c sc : Nat) (l ls : List Cc) (K : Nat) (x sx : Cc) (k sk : F) (w : World) (hl : l.length ≤ 1048576) (hc : l.length ≤ c) (h : CRow w ad l) (hls : ls.length ≤ 1048576) (hsc : ls.length ≤ sc) (hs : CRow w sad ls) (ht : treeT l = some (.cons x k .nil)) (hts : treeT ls = some (.cons sx sk .nil)) (hK : K ≤ 99) :
    Calls Try.prog 25 #[.slice ad l.length c, .int .i64 (K : Int), .slice sad ls.length sc] w fun e w' => RU w (sbU l K ls x k sx sk) e w' := by
  have HR := hide h
  have HRS := hide hs
  have HT := hide (treeT_flat ht)
  have HTS := hide (treeT_flat hts)
  have hr0 : sbU l K ls x k sx sk = if l.length + us1 K x k * (ls.length - 1) ≤ 600 then some (sbr K sx 0 x :: (sbk K sx sk 0 x k).flat) else none := rfl
  obtain ⟨R, hR⟩ : ∃ R, R = sbU l K ls x k sx sk := ⟨_, rfl⟩
  rw [← hR] at hr0 ⊢
  have HR0 := hide hr0
  clear h hs ht hts hR hr0
  have hKi : (K : Int) ≤ 99 := by omega
  go_enter Try.func25, Try.ntmps25
  go_wp2_with fail
  obtain ⟨w2, hw0⟩ : ∃ w2, w2 = (w.alloc (.cells #[.int .i64 (K : Int)] 3)).alloc (.cells #[.slice sad ls.length sc] 23) := ⟨_, rfl⟩
  have hB2 : Below w.heap.size w w2 := by rw [hw0]; exact ((Below.refl _ _).alloc (Nat.le_refl _) _).alloc (by simp) _
  have k0 : w2.heap[w.heap.size]? = some (inO (K : Int)) := by rw [hw0, heap_alloc_old _ _ (by simp)]; exact heap_alloc_new _ _
  have k1 : w2.heap[w.heap.size + 1]? = some (.cells #[.slice sad ls.length sc] 23 (0, 0)) := by rw [hw0]; have := heap_alloc_new (w.alloc (.cells #[.int .i64 (K : Int)] 3)) (.cells #[.slice sad ls.length sc] 23); simpa using this
  have hsz2 : w2.heap.size = w.heap.size + 1 + 1 := by rw [hw0]; simp
  rw [← hw0]
  have K02 := hide k0
  have K12 := hide k1
  clear hw0 k0 k1
  obtain ⟨t1, t2, t3, t4, t5⟩ := HT.out
  obtain ⟨u1, u2, u3, u4, u5⟩ := HTS.out
  have hpo := partOf_any (.cons sx sk .nil) sad sc w2 u2 u3 (by rw [← u1]; exact hls) (by rw [← u1]; exact hsc) (by rw [← u1]; exact HRS.out.below hB2)
  rw [← u1] at hpo
  have HPS := hide hpo
  obtain ⟨T0, v0, hV0⟩ := pvT_iface (a := .cons sx sk .nil) rfl
  rw [hV0] at HPS
  clear hpo
  refine Calls.mono HPS.out ?_
  rintro e w3 ⟨rfl, hb3⟩
  have hB3 : Below w.heap.size w w3 := hB2.trans (hb3.mono hB2.size)
  have hsz3 := hb3.size
  have k03 := hide ((hb3.block _ (by omega)).trans K02.out)
  have k13 := hide ((hb3.block _ (by omega)).trans K12.out)
  have HV0 := hide hV0
  clear hb3 HPS hV0 K02 K12 hB2 t1 t2 t3 t4 t5 u1 u2 u3 u4 u5
  go_wp2_with fail
  obtain ⟨t1, t2, t3, t4, t5⟩ := HT.out
  obtain ⟨u1, u2, u3, u4, u5⟩ := HTS.out
  obtain ⟨w4, hw4⟩ : ∃ w4, w4 = (w3.alloc (.cells #[.iface T0 v0] 65)).alloc (.cells #[.int .i64 (l.length : Int)] 3) := ⟨_, rfl⟩
  rw [← hw4]
  have hB34 : Below w3.heap.size w3 w4 := by rw [hw4]; exact ((Below.refl _ _).alloc (Nat.le_refl _) _).alloc (by simp) _
  have kp4 : w4.heap[w3.heap.size]? = some (.cells #[.iface T0 v0] 65 (0, 0)) := by rw [hw4, heap_alloc_old _ _ (by simp)]; exact heap_alloc_new _ _
  have kz4 : w4.heap[w3.heap.size + 1]? = some (inO (l.length : Int)) := by rw [hw4]; have := heap_alloc_new (w3.alloc (.cells #[.iface T0 v0] 65)) (.cells #[.int .i64 (l.length : Int)] 3); simpa [inO] using this
  have hsz4 : w4.heap.size = w3.heap.size + 1 + 1 := by rw [hw4]; simp
  have hB4 : Below w.heap.size w w4 := hB3.trans (hB34.mono hB3.size)
  have hpo := partOf_any (.cons x k .nil) ad c w4 t2 t3 (by rw [← t1]; exact hl) (by rw [← t1]; exact hc) (by rw [← t1]; exact HR.out.below hB4)
  rw [← t1] at hpo
  have HPo := hide hpo
  have HO4 : Hid (sbO K (.slice sad ls.length sc) (pvT (.cons sx sk .nil)) w.heap.size (w3.heap.size + 1) (w.heap.size + 1) w3.heap.size (l.length : Int) w4) := hide ⟨kz4, (hB34.block _ (by omega)).trans k03.out, (hB34.block _ (by omega)).trans k13.out, by rw [HV0.out]; exact kp4⟩
  obtain ⟨g1, l1, o1, -⟩ := ok_cons t2
  obtain ⟨m1, m2, m3, -⟩ := ok_cons u2
  have hkf : k.flat.length + 1 = l.length := by rw [t1]; simp [F.flat]
  have hsf : sk.flat.length + 1 = ls.length := by rw [u1]; simp [F.flat]
  have hwv := withVariables_any (σ := Int) 53 #[.pointer (some ⟨w.heap.size, 0, none⟩), .pointer (some ⟨w3.heap.size + 1, 0, none⟩), .pointer (some ⟨w.heap.size + 1, 0, none⟩), .pointer (some ⟨w3.heap.size, 0, none⟩)] (w3.heap.size + 1) (sbO K (.slice sad ls.length sc) (pvT (.cons sx sk .nil)) w.heap.size (w3.heap.size + 1) (w.heap.size + 1) w3.heap.size) (sbV K ls.length sx sk) (sbB K ls.length) fnSubst (chgSubst K ls.length hK u4 sad sc sx sk m1 m2 m3 (by omega) _ _ _ _ (by omega) (by omega) (by omega)) (sbV_len K ls.length sx sk) k x (l.length : Int) 0 g1 l1 o1 (by omega)
  have hpt : pvT (.cons x k .nil) = pv x.k x.n (pvs k) := rfl
  rw [← hpt] at hwv
  have hone : (wv (sbV K ls.length sx sk) (sbB K ls.length) 0 0 0 (.cons x k .nil) (l.length : Int)).1.len = 1 := wv_len (sbV_len K ls.length sx sk) _ _ _ _ _
  have hus : usf (K + 0) 0 0 (.cons x k .nil) = us1 K x k := by rw [usf_cons, binds_0]; simp [usf]
  have hsize := subst_size K ls.length sk.flat.length sx sk (by omega) (by omega) (.cons x k .nil) 0 0 0 (l.length : Int) t2 (by omega) (by rw [← t1]; omega)
  have htree := subst_tree K ls.length sk.flat.length sx sk (by omega) (by omega) (.cons x k .nil) 0 0 0 (l.length : Int) t2 (by omega) (by rw [← t1]; omega)
  have hflat := sbf_flat K sx sk (.cons x k .nil) 0 0 0 t2
  have hfit := sbf_fit K sx sk (F.ok_fit u2) (.cons x k .nil) 0 0 0 (F.ok_fit t2)
  rw [hus] at hsize htree hflat
  have hsb : sbf K sx sk 0 0 0 (.cons x k .nil) = .cons (sbr K sx 0 x) (sbk K sx sk 0 x k) .nil := by rw [sbf_cons, binds_0]; rfl
  rw [hsb] at htree hflat hfit
  rw [← t1] at hflat
  have hL1 : ls.length - 1 = sk.flat.length := by omega
  rw [hL1] at HR0
  obtain ⟨T1, q1, hV1⟩ := pvT_iface (a := .cons x k .nil) rfl
  rw [hV1] at HPo hwv
  obtain ⟨T2, q2, hV2⟩ := pvT_iface hone
  have hul := us1_le K x k
  have hum : us1 K x k * sk.flat.length ≤ 600 * 600 := Nat.mul_le_mul (by omega) (by omega)
  unfold WVC W.w1 at hwv
  rw [hsize, hV2, show ((0 : Nat) : Int) = 0 from rfl] at hwv
  have HWV := hide hwv
  obtain ⟨Z, hZ⟩ : ∃ Z, Z = l.length + us1 K x k * sk.flat.length := ⟨_, rfl⟩
  rw [← hZ] at HR0 hflat
  have hZi : (l.length : Int) + ((us1 K x k * sk.flat.length : Nat) : Int) = (Z : Int) := by rw [hZ]; omega
  rw [hZi] at HWV htree
  have hZb : Z ≤ 400000 := by omega
  have HTr := hide htree
  have HFl := hide hflat
  have HFt := hide hfit
  have HV2 := hide hV2
  clear hw4 kp4 kz4 hpo t1 t2 t3 t4 t5 u1 u2 u3 u4 u5 HT HTS g1 l1 o1 m1 m2 m3 hkf hsf hwv hpt hone hus hsize htree hflat hfit hsb hL1 hV1 hV2 hul hum hZ hZi k03 k13
  refine Calls.mono HPo.out ?_
  rintro e w5 ⟨rfl, hb5⟩
  have hI5 : Inv (w3.heap.size + 1) (sbO K (.slice sad ls.length sc) (pvT (.cons sx sk .nil)) w.heap.size (w3.heap.size + 1) (w.heap.size + 1) w3.heap.size (l.length : Int)) w5 := fun w' h1 h2 => (sbO.inv (c := 0) HO4.out) w' (Nat.le_trans hb5.size h1) (fun k hk => (h2 k (Nat.lt_of_lt_of_le hk hb5.size)).trans (hb5.block k hk))
  have HI5 := hide hI5
  have hcb5 : w3.heap.size + 1 < w5.heap.size := by have := hb5.size; omega
  have hB5 : Below w.heap.size w w5 := hB4.trans (hb5.mono hB4.size)
  clear hb5 HPo hB34 HO4 hI5
  go_wp2_with fail
  refine Calls.mono (HWV.out _ hcb5 HI5.out) ?_
  rintro e w6 ⟨rfl, hi6, ho6⟩
  have hb6 := hi6.get.1
  have c6 : w6.cell? ⟨w3.heap.size + 1, 0, none⟩ = some (.int .i64 (Z : Int)) := (cell_of_blk hb6 0).trans rfl
  have hlt6 : w3.heap.size + 1 < w6.heap.size := (Array.getElem?_eq_some_iff.1 hb6).1
  have hB6 : Below w.heap.size w w6 := hB5.trans (ho6.below (by have := hB5.size; omega) (by omega))
  clear hi6 ho6 hb6 HI5 HWV
  by_cases hbig : Z ≤ 600
  · have hbi : ¬ (600 : Int) < (Z : Int) := by omega
    have htr := HTr.out (by omega)
    have hv2 := HV2.out
    rw [htr] at hv2
    have hmc := mcT HFt.out rfl
    have hna := naT HFt.out rfl _ _ hv2
    rw [hv2] at hmc
    have hfl : (F.cons (sbr K sx 0 x) (sbk K sx sk 0 x k) .nil).flat = sbr K sx 0 x :: (sbk K sx sk 0 x k).flat := by simp [F.flat]
    have hlen := HFl.out
    rw [hfl] at hmc hlen
    obtain ⟨cs, hcs⟩ : ∃ cs, cs = sbr K sx 0 x :: (sbk K sx sk 0 x k).flat := ⟨_, rfl⟩
    rw [← hcs] at hmc hlen HR0
    have hR : R = some cs := by rw [HR0.out, if_pos hbig]
    have HRn := hide hR
    have HMC := hide hmc
    have hmk := mkc Z (by omega)
    clear hR htr hv2 hmc hfl hcs HTr HV2 HFt HFl HR0
    obtain ⟨T, u, f, hVe, hm, hf, hcc⟩ := HMC.out
    simp only [Value.iface.injEq] at hVe
    obtain ⟨rfl, rfl⟩ := hVe
    have hO6 : (w6.alloc (.cells (madeCells #[.int .i64 0, .int .i64 0] (Z * 2)) 62)).drew.ownsRow w6.heap.size 62 2 (.slice (some ⟨w6.heap.size, 0, none⟩) 0 Z) 0 [] :=
      ⟨rfl, .inr ⟨w6.heap.size, Z, _, rfl, Nat.le_refl _, heap_alloc_new w6 _, by omega, by unfold maxLen; omega, by simp [madeCells], by simp⟩⟩
    have HCC := hide (hcc w6.heap.size 0 [] _ _ hO6 (by omega) (by show w6.heap.size ≤ (w6.alloc _).heap.size; simp))
    have c6a : (w6.alloc (.cells (madeCells #[.int .i64 0, .int .i64 0] (Z * 2)) 62)).drew.cell? ⟨w3.heap.size + 1, 0, none⟩ = some (.int .i64 (Z : Int)) := World.cell?_alloc_some w6 ⟨w3.heap.size + 1, 0, none⟩ _ (by rw [c6]; rfl) ▸ c6
    have C6a := hide c6a
    have h36 : w3.heap.size + 1 < w6.heap.size := hlt6
    clear hcc HMC hO6 c6a
    go_wp2_with fail
    go_region_held3 (fun w' => w'.cell? ⟨w3.heap.size + 1, 0, none⟩ = some (.int .i64 (Z : Int))) (go_keep)
      (first
        | (refine Calls.mono HCC.out ?_; rintro e w7 ⟨v7, rfl, ho7, hg7, -⟩; obtain ⟨rad, rc, rfl⟩ := iOwn_form ho7; have HO7 := hide ho7; have HG7 := hide hg7; have c7 := (hg7.cell_far ⟨w3.heap.size + 1, 0, none⟩ (show w3.heap.size + 1 < (w6.alloc _).heap.size by simp; omega) (by simp [Value.ownBlock]; omega)).trans C6a.out; clear ho7 hg7))
    all_goals
      rw [Nat.zero_add, List.nil_append] at HO7
      have hB7 : Below w.heap.size w w7 := (belowDrw' (hB6.alloc hB6.size _)).grown HG7.out (by have := hB6.size; show _ ≤ (w6.alloc _).heap.size; simp; omega) (fun k hk => by simp only [Value.ownBlock, Option.some.injEq] at hk; have := hB6.size; omega)
      have HO8 := hide (iOwn_lower HO7.out hB6.size)
      go_wp2_with fail
      refine bodyPost_ret (v := .tuple #[.slice rad Z rc, .bool true]) (by simp [results, Try.results25, go_sem]) rfl ?_
      rw [HRn.out]
      exact ⟨.slice rad Z rc, rfl, by have h := HO8.out; rw [hlen] at h; show w7.ownsRow _ _ 2 _ cs.length (cv cs); rw [hlen]; exact h, hB7⟩
  · have hbi : (600 : Int) < (Z : Int) := by omega
    have hR : R = none := by rw [HR0.out, if_neg hbig]
    have HRn := hide hR
    clear hR
    go_wp2_with fail
    exact bodyPost_ret (v := .tuple #[.slice none 0 0, .bool false]) (by simp [results, Try.results25, go_sem]) rfl (by rw [HRn.out]; exact ⟨_, rfl, World.ownsRow_nil _ _ _ _, hB6⟩)
end Go.Proofs.Ytjmgnljjeogdlaa.W

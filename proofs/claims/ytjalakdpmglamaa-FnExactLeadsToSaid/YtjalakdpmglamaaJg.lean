/-
  Some texts of this proof in one: TeT, TeU.
-/
import Derived.Test.YtjalakdpmglamaaJf
import Derived.Deep.RegionLaw
/-
  Trees told as cells by the specification: contracts of l3Flat and l3Tell. Conditions: at most 1048576 cells.
-/
namespace Go.Proofs.Ytjalakdpmglamaa.W
open Go.ChangeShapes Go.WideShapes Go.ChangeAt Go.RowKit
set_option linter.unusedVariables false
end Go.Proofs.Ytjalakdpmglamaa.W

/-
  Terms shifted by the specification: a contract of l3Shift. Conditions: as the theorem states.
-/
namespace Go.Proofs.Ytjalakdpmglamaa.W
open Go.ChangeShapes Go.WideShapes Go.ChangeAt Go.RowKit
set_option linter.unusedVariables false

def shc (by_ : Int) (f : Nat) (x : Cc) : Cc := if x.k = 1 ∧ (f : Int) ≤ x.n then ⟨x.k, x.n + by_⟩ else x
/-- Terms shifted: the kids from i on of a term of kind pk. -/
def shf (by_ : Int) (pk : Int) (f : Nat) : Nat → F → F
  | _, .nil => .nil
  | i, .cons x k r => .cons (shc by_ (f + binds pk i) x) (shf by_ x.k (f + binds pk i) 0 k) (shf by_ pk f (i + 1) r)
theorem shf_app (by_ pk : Int) (f : Nat) : ∀ (a b : F) (i : Nat), shf by_ pk f i (a.app b) = (shf by_ pk f i a).app (shf by_ pk f (i + a.len) b)
  | .nil, b, i => rfl
  | .cons x k r, b, i => by
    simp only [F.app, shf, shf_app by_ pk f r b, F.len]
    rw [show i + 1 + r.len = i + (r.len + 1) by omega]
theorem shf_len (by_ pk : Int) (f : Nat) : ∀ (a : F) (i : Nat), (shf by_ pk f i a).len = a.len
  | .nil, _ => rfl
  | .cons x k r, i => by simp [shf, F.len, shf_len by_ pk f r]
theorem shf_flat (by_ : Int) : ∀ (a : F) (pk : Int) (f i : Nat), (shf by_ pk f i a).flat.length = a.flat.length
  | .nil, _, _, _ => rfl
  | .cons x k r, pk, f, i => by simp [shf, F.flat, shf_flat by_ k, shf_flat by_ r]

def L3HGoal (k : F) : Prop := ∀ (x : Cc) (s : Value) (by_ : Int) (f : Nat) (P : Nat → Prop) (w : World), -1000000 ≤ x.n → x.n ≤ 1000000 → -1000 ≤ by_ → by_ ≤ 1000 → k.len = ar x.k → k.ok → f + k.flat.length ≤ 2000000 → KidT w P k s →
    Calls Try.prog 47 #[.agg #[.int .i64 x.k, .int .i64 x.n, s], .int .i64 by_, .int .i64 (f : Int)] w fun e w' => ∃ s', e = .returned (.agg #[.int .i64 (shc by_ f x).k, .int .i64 (shc by_ f x).n, s']) ∧ KidT w' (fun g => w.heap.size ≤ g) (shf by_ x.k f 0 k) s' ∧ Below w.heap.size w w'

/-- A kid more behind a tree's kids. -/
theorem row_step {wr w5 w6 : World} {B : Obj} {b0 O al g6 cap6 : Nat} {own : Option Nat} {F1 kk : F} {cs : List Value} {zz : Cc} {s5 : Value} {T : TypeId} {x0 x1 sO : Value}
    (h5 : Below wr.heap.size wr w5) (hK : KidsAt wr (fun g => b0 ≤ g ∧ own ≠ some g) F1 cs) (hT : KidT w5 (fun g => wr.heap.size ≤ g) kk s5)
    (ho : w6.ownsRow b0 T 3 (.slice (some ⟨g6, 0, none⟩) (al + 1) cap6) (al + 1) (cs ++ tC zz s5)) (hg : (w5.alloc B).grownBy w6 own) (hat : own = some g6 ∨ g6 = (w5.alloc B).heap.size)
    (hl : ∀ k, own = some k → b0 ≤ k ∧ k < wr.heap.size) (hO : O < b0) (hb : b0 ≤ wr.heap.size) (hOc : wr.heap[O]? = some (.cells #[x0, x1, sO] T (0, 0))) :
    KidsAt (w6.setCell ⟨O, 2, none⟩ (.slice (some ⟨g6, 0, none⟩) (al + 1) cap6)) (fun g => b0 ≤ g ∧ (Value.slice (some ⟨g6, 0, none⟩) (al + 1) cap6).ownBlock ≠ some g) (F1.app (.cons zz kk .nil)) (cs ++ tC zz s5) ∧
    (w6.setCell ⟨O, 2, none⟩ (.slice (some ⟨g6, 0, none⟩) (al + 1) cap6)).ownsRow b0 T 3 (.slice (some ⟨g6, 0, none⟩) (al + 1) cap6) (al + 1) (cs ++ tC zz s5) ∧
    Holds (w6.setCell ⟨O, 2, none⟩ (.slice (some ⟨g6, 0, none⟩) (al + 1) cap6)) (fun g => b0 ≤ g) (.slice (some ⟨g6, 0, none⟩) (al + 1) cap6) (al + 1) (cs ++ tC zz s5) ∧
    (∀ k, k < b0 → k ≠ O → (w6.setCell ⟨O, 2, none⟩ (.slice (some ⟨g6, 0, none⟩) (al + 1) cap6)).heap[k]? = wr.heap[k]?) ∧
    (w6.setCell ⟨O, 2, none⟩ (.slice (some ⟨g6, 0, none⟩) (al + 1) cap6)).heap[O]? = some (.cells #[x0, x1, .slice (some ⟨g6, 0, none⟩) (al + 1) cap6] T (0, 0)) ∧
    wr.heap.size ≤ (w6.setCell ⟨O, 2, none⟩ (.slice (some ⟨g6, 0, none⟩) (al + 1) cap6)).heap.size ∧ Below O wr (w6.setCell ⟨O, 2, none⟩ (.slice (some ⟨g6, 0, none⟩) (al + 1) cap6)) := by
  have hs5 := h5.size
  have hs6 : w5.heap.size + 1 ≤ w6.heap.size := by have := hg.size; simpa using this
  have hbf : ∀ k, k ≠ O → (w6.setCell ⟨O, 2, none⟩ (.slice (some ⟨g6, 0, none⟩) (al + 1) cap6)).heap[k]? = w6.heap[k]? := fun k hk => Below.heap_setCell _ _ _ _ hk
  have hss : (w6.setCell ⟨O, 2, none⟩ (.slice (some ⟨g6, 0, none⟩) (al + 1) cap6)).heap.size = w6.heap.size := by simp [World.setCell]
  have hk6 : ∀ k, own ≠ some k → k < w5.heap.size → w6.heap[k]? = w5.heap[k]? := fun k hn hlt => by
    rw [hg.block k (by simp; omega) (fun e => hn e.symm), heap_alloc_old _ _ hlt]
  have hg6 : ∀ k, k < w5.heap.size → own ≠ some k → (Value.slice (some ⟨g6, 0, none⟩) (al + 1) cap6).ownBlock ≠ some k := fun k hlt hn e => by
    simp only [Value.ownBlock, Option.some.injEq] at e
    subst e
    rcases hat with h | h
    · exact hn h
    · simp at h; omega
  have hgl : b0 ≤ g6 ∧ g6 < w6.heap.size := ho.lt g6 rfl
  have k1 : KidsAt (w6.setCell ⟨O, 2, none⟩ (.slice (some ⟨g6, 0, none⟩) (al + 1) cap6)) (fun g => b0 ≤ g ∧ (Value.slice (some ⟨g6, 0, none⟩) (al + 1) cap6).ownBlock ≠ some g) F1 cs := by
    refine hK.keep (by rw [hss]; omega) (fun k hk1 hk2 => ⟨?_, hk1.1, hg6 k (by omega) hk1.2⟩)
    rw [hbf k (by omega), hk6 k hk1.2 (by omega), h5.block k hk2]
  have hown : ∀ k, wr.heap.size ≤ k → own ≠ some k := fun k hk e => by have := (hl k e).2; omega
  have k2 : KidT (w6.setCell ⟨O, 2, none⟩ (.slice (some ⟨g6, 0, none⟩) (al + 1) cap6)) (fun g => b0 ≤ g ∧ (Value.slice (some ⟨g6, 0, none⟩) (al + 1) cap6).ownBlock ≠ some g) kk s5 := by
    refine hT.keep (by rw [hss]; omega) (fun k hk1 hk2 => ⟨?_, by omega, hg6 k hk2 (hown k hk1)⟩)
    rw [hbf k (by omega), hk6 k (hown k hk1) hk2]
  have hall : ∀ k, k < b0 → k ≠ O → (w6.setCell ⟨O, 2, none⟩ (.slice (some ⟨g6, 0, none⟩) (al + 1) cap6)).heap[k]? = wr.heap[k]? := fun k hk1 hk2 => by
    rw [hbf k hk2, hk6 k (fun e => by have := (hl k e).1; omega) (by omega), h5.block k (by omega)]
  have hO6 : w6.heap[O]? = some (.cells #[x0, x1, sO] T (0, 0)) := by
    rw [hk6 O (fun e => by have := (hl O e).1; omega) (by omega), h5.block O (by omega)]; exact hOc
  refine ⟨KidsAt.app k1 ⟨s5, [], (List.append_nil _).symm, k2, rfl⟩, tOwn_keep ho (fun k hk1 hk2 => hbf k (by omega)), ?_, hall, ?_, by rw [hss]; omega, ?_⟩
  · obtain ⟨g, cap, he, hgb, hgs, hgc⟩ := tOwn_lies ho (by omega)
    simp only [Value.slice.injEq, Option.some.injEq, Addr.mk.injEq, and_true, true_and] at he
    obtain ⟨rfl, rfl⟩ := he
    refine .inr ⟨by omega, _, _, rfl, hgb, by rw [hss]; exact hgs, fun j v hj => ?_⟩
    rw [World.cell?_of_block (w := w6) (hbf _ (by dsimp only; omega))]
    exact hgc j v hj
  · rw [blk_setCell hO6]; rfl
  · refine ⟨?_, ?_, ?_, by rw [hss]; omega, fun k hk => hall k (by omega) (by omega)⟩
    · exact hg.os.trans h5.os
    · exact hg.tape.trans h5.tape
    · exact hg.output.trans h5.output

set_option maxRecDepth 20000 in
set_option maxHeartbeats 8000000 in
theorem l3Shift_any : ∀ k, L3HGoal k := by
  apply F.rec_kids
  intro k ih x s by_ f P w hn1 hn2 hb1 hb2 hka hko hd hT
  have IH := hide ih
  have HT := hide hT
  have HKO := hide hko
  obtain ⟨sad, sc, rfl⟩ := hT.form
  clear ih hT hko
  obtain ⟨i0, hi0, hz0, hz1, hz2⟩ := infoPartsT infoT
  have Hi := hide hi0
  clear hi0
  have hkl := F.len_flat k
  obtain ⟨KL, hKL⟩ : ∃ KL, KL = k.len := ⟨_, rfl⟩
  rw [← hKL] at HT hkl ⊢
  have HKL := hide hKL
  clear hKL
  obtain ⟨xk, xn⟩ := x
  simp only at *
  obtain ⟨z, hz⟩ : ∃ z, z = shc by_ f ⟨xk, xn⟩ := ⟨_, rfl⟩
  rw [← hz]
  by_cases hx0 : xk = 1
  · subst hx0
    have hk0 : k = .nil := F.len_0 (by rw [hka]; rfl)
    subst hk0
    obtain rfl : KL = 0 := HKL.out
    clear HKL hka hkl IH
    by_cases hx1 : (f : Int) ≤ xn
    · have hz' : z = ⟨1, xn + by_⟩ := by rw [hz]; exact if_pos ⟨rfl, hx1⟩
      subst hz'
      clear hz
      go_enter Try.func47, Try.ntmps47
      go_wp2_with fail
      go_loopw [32] (fun i w' => i = .int .i64 0 ∧ w' = (((w.alloc (.cells #[.int .i64 1, .int .i64 xn, .slice sad 0 sc] 32)).alloc (.cells #[.int .i64 0, .int .i64 0, .slice none 0 0] 32)).alloc (.cells #[.int .i64 1, .int .i64 (xn + by_), .slice none 0 0] 32))) (fun _ _ => 0)
      case atStart => exact ⟨rfl, rfl⟩
      case round =>
        obtain ⟨rfl, rfl⟩ := hrel
        go_wp2_with fail
        exact bodyPost_ret (v := .agg #[.int .i64 1, .int .i64 (xn + by_), .slice none 0 0]) (by simp [results, Try.results47, go_sem]) rfl ⟨_, rfl, KidT.nil, (((Below.refl _ _).alloc (Nat.le_refl _) _).alloc (by simp) _).alloc (by simp; omega) _⟩
    · have hz' : z = ⟨1, xn⟩ := by rw [hz]; exact if_neg (fun h => hx1 h.2)
      subst hz'
      clear hz
      go_enter Try.func47, Try.ntmps47
      go_wp2_with fail
      go_loopw [32] (fun i w' => i = .int .i64 0 ∧ w' = (((w.alloc (.cells #[.int .i64 1, .int .i64 xn, .slice sad 0 sc] 32)).alloc (.cells #[.int .i64 0, .int .i64 0, .slice none 0 0] 32)).alloc (.cells #[.int .i64 1, .int .i64 (xn), .slice none 0 0] 32))) (fun _ _ => 0)
      case atStart => exact ⟨rfl, rfl⟩
      case round =>
        obtain ⟨rfl, rfl⟩ := hrel
        go_wp2_with fail
        exact bodyPost_ret (v := .agg #[.int .i64 1, .int .i64 (xn), .slice none 0 0]) (by simp [results, Try.results47, go_sem]) rfl ⟨_, rfl, KidT.nil, (((Below.refl _ _).alloc (Nat.le_refl _) _).alloc (by simp) _).alloc (by simp; omega) _⟩
  · have hz' : z = ⟨xk, xn⟩ := by rw [hz]; exact if_neg (fun h => hx0 h.1)
    subst hz'
    clear hz hka
    go_enter Try.func47, Try.ntmps47
    go_wp2_with fail
    obtain ⟨T0, hT0⟩ : ∃ T0, T0 = w.heap.size := ⟨_, rfl⟩
    obtain ⟨w0, hw0⟩ : ∃ w0, w0 = (((w.alloc (.cells #[.int .i64 xk, .int .i64 xn, .slice sad KL sc] 32)).alloc (.cells #[.int .i64 0, .int .i64 0, .slice none 0 0] 32)).alloc (.cells #[.int .i64 xk, .int .i64 xn, .slice none 0 0] 32)) := ⟨_, rfl⟩
    have hB0 : Below w.heap.size w w0 := by rw [hw0]; exact (((Below.refl _ _).alloc (Nat.le_refl _) _).alloc (by simp) _).alloc (by simp; omega) _
    have hbT : w0.heap[w.heap.size]? = some (.cells #[.int .i64 xk, .int .i64 xn, .slice sad KL sc] 32) := by rw [hw0, heap_alloc_old _ _ (by simp; omega), heap_alloc_old _ _ (by simp)]; exact heap_alloc_new _ _
    have hbR : w0.heap[w.heap.size + 1]? = some (.cells #[.int .i64 0, .int .i64 0, .slice none 0 0] 32) := by rw [hw0, heap_alloc_old _ _ (by simp)]; have := heap_alloc_new (w.alloc (.cells #[.int .i64 xk, .int .i64 xn, .slice sad KL sc] 32)) (.cells #[.int .i64 0, .int .i64 0, .slice none 0 0] 32); simpa using this
    have hbO : w0.heap[w.heap.size + 1 + 1]? = some (.cells #[.int .i64 xk, .int .i64 xn, .slice none 0 0] 32) := by rw [hw0]; have := heap_alloc_new ((w.alloc (.cells #[.int .i64 xk, .int .i64 xn, .slice sad KL sc] 32)).alloc (.cells #[.int .i64 0, .int .i64 0, .slice none 0 0] 32)) (.cells #[.int .i64 xk, .int .i64 xn, .slice none 0 0] 32); simpa using this
    have hsz0 : w0.heap.size = w.heap.size + 1 + 1 + 1 := by rw [hw0]; simp
    rw [← hw0]
    have HT0 := hide hbT
    have HR0 := hide hbR
    have HO0 := hide hbO
    have HSz0 := hide hsz0
    clear hw0 hbT hbR hbO hsz0 hT0
    go_loopw [32] (fun i w' => ∃ (a b : F) (s : Value) (cs : List Value), k = a.app b ∧ i = .int .i64 (a.len : Int) ∧ Below w.heap.size w w' ∧ w0.heap.size ≤ w'.heap.size ∧ w'.heap[w.heap.size]? = some (.cells #[.int .i64 xk, .int .i64 xn, .slice sad KL sc] 32 (0, 0)) ∧ w'.heap[w.heap.size + 1]? = some (.cells #[.int .i64 0, .int .i64 0, .slice none 0 0] 32 (0, 0)) ∧ w'.heap[w.heap.size + 1 + 1]? = some (.cells #[.int .i64 xk, .int .i64 xn, s] 32 (0, 0)) ∧
      KidsAt w' (fun g => w0.heap.size ≤ g ∧ s.ownBlock ≠ some g) (shf by_ xk f 0 a) cs ∧ w'.ownsRow w0.heap.size 32 3 s a.len cs ∧ Holds w' (fun g => w0.heap.size ≤ g) s a.len cs) (fun i _ => KL - (intOf i).toNat)
    case atStart => exact ⟨.nil, k, _, [], rfl, rfl, hB0, Nat.le_refl _, HT0.out, HR0.out, HO0.out, rfl, World.ownsRow_nil _ _ _ _, .inl ⟨rfl, rfl⟩⟩
    case round =>
      obtain ⟨a, b, so, cs, hk, rfl, hBr, hszr, hbT, hbR, hbO, hKs, hOw, hHo⟩ := hrel
      clear HT0 HR0 HO0 hB0
      have HT1 := hide hbT
      have HR1 := hide hbR
      have HO1 := hide hbO
      have HKs := hide hKs
      have HOw := hide hOw
      have HHo := hide hHo
      obtain ⟨oad, oc, hform⟩ := iOwn_form hOw
      subst hform
      clear hbT hbR hbO hKs hOw hHo
      cases b with
      | nil =>
        rw [F.app_nil] at hk
        subst hk
        have hKL := HKL.out
        rw [← hKL]
        rw [← hKL] at HO1 HHo
        clear hKL
        have z0 := cell_of_blk HR1.out 0
        have z1 := cell_of_blk HR1.out 1
        have z2 := cell_of_blk HR1.out 2
        have fz := unfrozen_of_blk HR1.out
        have y0 := cell_of_blk HO1.out 0
        have y1 := cell_of_blk HO1.out 1
        have y2 := cell_of_blk HO1.out 2
        simp only [List.getElem?_toArray, List.getElem?_cons_zero, List.getElem?_cons_succ] at z0 z1 z2 y0 y1 y2
        go_wp2_with fail
        refine bodyPost_ret (v := .agg #[.int .i64 xk, .int .i64 xn, .slice oad KL oc]) (by simp [results, Try.results47, go_sem, *]) rfl ⟨_, rfl, ?_, ((hBr.setCell (p := ⟨w.heap.size + 1, 0, none⟩) (by simp) _).setCell (p := ⟨w.heap.size + 1, 1, none⟩) (by simp) _).setCell (p := ⟨w.heap.size + 1, 2, none⟩) (by simp) _⟩
        have hsz := HSz0.out
        have hkk : KidT wr (fun g => w0.heap.size ≤ g) (shf by_ xk f 0 k) (.slice oad KL oc) := ⟨cs, HKs.out.keep (Nat.le_refl _) (fun g h1 _ => ⟨rfl, h1.1⟩), by rw [shf_len, ← HKL.out]; exact HHo.out⟩
        refine hkk.keep (by simp [World.setCell]) (fun g h1 h2 => ⟨?_, by omega⟩)
        have hkn : g ≠ w.heap.size + 1 := by omega
        rw [Below.heap_setCell _ _ _ _ hkn, Below.heap_setCell _ _ _ _ hkn, Below.heap_setCell _ _ _ _ hkn]
      | cons y ky b =>
        have hsz0 := HSz0.out
        have hkl2 : KL = a.len + (b.len + 1) := by rw [HKL.out, hk, F.app_len]; rfl
        have hlt' : (a.len : Int) < (KL : Int) := by omega
        have hfk : k.flat.length = a.flat.length + (1 + ky.flat.length + b.flat.length) := by rw [hk, F.app_flat]; simp [F.flat]; omega
        have hI := IH.out
        have hKO := HKO.out
        rw [hk] at hI hKO
        obtain ⟨g, cap, sy, he, hPg, hg, hTy, p0, p1, p2⟩ := KidT.kid (a := a) (k := ky) (r := b) (x := y) (s := .slice sad KL sc) (by rw [← hk]; exact HT.out)
        simp only [Value.slice.injEq] at he
        obtain ⟨rfl, -, rfl⟩ := he
        have q0 := (hBr.cell (p := ⟨g, a.len * 3, none⟩) hg).trans p0
        have q1 := (hBr.cell (p := ⟨g, a.len * 3 + 1, none⟩) hg).trans p1
        have q2 := (hBr.cell (p := ⟨g, a.len * 3 + 2, none⟩) hg).trans p2
        obtain ⟨g1, l1, o1, -⟩ := ok_cons ((F.app_ok _ _).1 hKO).2
        have hyn := good_n g1
        have hbl := binds_le xk a.len
        have HC := hide (fun (w' : World) (hw' : Below w.heap.size w w') => F.all_at hI y sy by_ (f + binds xk a.len) P w' hyn.1 hyn.2 hb1 hb2 l1 o1 (by omega) (hTy.keep hw'.size (fun k h1 h2 => ⟨hw'.block k h2, h1⟩)))
        obtain ⟨yad, yc, rfl⟩ := hTy.form
        have HSn := hide (hk.trans (F.app_snoc a ky b y))
        have HDl : Hid ((a.app (.cons y ky .nil)).len = a.len + 1) := hide (by rw [F.app_len]; rfl)
        have HSh : Hid (shf by_ xk f 0 (a.app (.cons y ky .nil)) = (shf by_ xk f 0 a).app (.cons (shc by_ (f + binds xk a.len) y) (shf by_ y.k (f + binds xk a.len) 0 ky) .nil)) := hide (by rw [shf_app, Nat.zero_add]; rfl)
        have HKl2 := hide hkl2
        have HBi := hide (l3Binds_any xk a.len)
        have hcsl := HOw.out.1
        clear p0 p1 p2 hTy hI hk hkl2 hfk hKO g1 l1 o1 hyn
        obtain ⟨al, hal⟩ : ∃ al, al = a.len := ⟨_, rfl⟩
        obtain ⟨kn, hkn⟩ : ∃ kn, kn = ky.len := ⟨_, rfl⟩
        obtain ⟨bi, hbi⟩ : ∃ bi, bi = binds xk a.len := ⟨_, rfl⟩
        obtain ⟨zz, hzz⟩ : ∃ zz, zz = shc by_ (f + binds xk a.len) y := ⟨_, rfl⟩
        obtain ⟨kk, hkk⟩ : ∃ kk, kk = shf by_ y.k (f + binds xk a.len) 0 ky := ⟨_, rfl⟩
        rw [← hzz, ← hkk] at HC HSh
        rw [← hbi] at HC HBi hbl
        rw [← hal] at hlt' q0 q1 q2 HDl HKl2 HBi HO1 HOw HHo HKs hcsl ⊢
        rw [← hkn] at HC q2
        rw [Int.natCast_add] at HC
        clear hal hkn hbi hzz hkk
        have c0 : wr.cell? ⟨w.heap.size, 0, none⟩ = some (.int .i64 xk) := (cell_of_blk HT1.out 0).trans rfl
        have c4 : wr.cell? ⟨w.heap.size + 1 + 1, 2, none⟩ = some (.slice oad al oc) := (cell_of_blk HO1.out 2).trans rfl
        have hw : IntKind.i64.wrap ((f : Int) + (bi : Int)) = (f : Int) + (bi : Int) := IntWalk.i64_in _ ⟨by omega, by omega⟩
        have hal3 : al < 2000001 := by omega
        go_wp2_with fail
        obtain ⟨w3, hw3⟩ : ∃ w3, w3 = wr.alloc (.cells #[.int .i64 y.k, .int .i64 y.n, .slice yad kn yc] 32) := ⟨_, rfl⟩
        rw [← hw3]
        have hb3 : w3.heap[wr.heap.size]? = some (.cells #[.int .i64 y.k, .int .i64 y.n, .slice yad kn yc] 32) := by rw [hw3]; exact heap_alloc_new _ _
        have hBr3 : Below wr.heap.size wr w3 := by rw [hw3]; exact (Below.refl _ _).alloc (Nat.le_refl _) _
        have hsz3 : wr.heap.size < w3.heap.size := (Array.getElem?_eq_some_iff.1 hb3).1
        have hB3 : Below w.heap.size w w3.drew := belowDrew (hBr.trans (hBr3.mono hBr.size))
        have e0 : w3.cell? ⟨wr.heap.size, 0, none⟩ = some (.int .i64 y.k) := (cell_of_blk hb3 0).trans rfl
        have e1 : w3.cell? ⟨wr.heap.size, 1, none⟩ = some (.int .i64 y.n) := (cell_of_blk hb3 1).trans rfl
        have e2 : w3.cell? ⟨wr.heap.size, 2, none⟩ = some (.slice yad kn yc) := (cell_of_blk hb3 2).trans rfl
        have e3 : w3.cell? ⟨w.heap.size, 0, none⟩ = some (.int .i64 xk) := (hBr3.cell (p := ⟨w.heap.size, 0, none⟩) (by show w.heap.size < _; omega)).trans c0
        have e4 : w3.cell? ⟨w.heap.size + 1 + 1, 2, none⟩ = some (.slice oad al oc) := (hBr3.cell (p := ⟨w.heap.size + 1 + 1, 2, none⟩) (by show w.heap.size + 1 + 1 < _; omega)).trans c4
        have HB3 := hide hB3
        have HBr3 := hide hBr3
        have hXO : ¬ wr.heap.size = w.heap.size + 1 + 1 := by omega
        have hXO' : ¬ w.heap.size + 1 + 1 = wr.heap.size := by omega
        have hTO : ¬ w.heap.size = w.heap.size + 1 + 1 := by omega
        have HNo : Hid (∀ k, (Value.slice oad al oc).ownBlock = some k → w0.heap.size ≤ k ∧ k < wr.heap.size) := hide (HOw.out.lt)
        have M1 : Hid (al + 1 ≤ maxLen) := hide (by unfold maxLen; omega)
        clear hw3 hb3 hBr3 q0 q1 q2 c0 c4 hB3
        go_region_law
          (first
            | (refine step_append_lies _ rfl _ _ 30 rfl w0.heap.size 32 i0 (.agg #[.int .i64 0, .int .i64 0, .slice none 0 0]) 3 40 Try.underlying30 Hi.out hz0 hz1 hz2 rfl (by decide) _ al cs rfl HOw5.out ⟨w5.heap.size, 0, none⟩ 1 1 (tC zz (.slice pad kk.len pc)) rfl rfl HNw.out (tC_one _ _ rfl) (by omega) M1.out (by omega) HBs.out _ rfl ?_; intro g6 cap6 w6 hown6 hgrow6 hat6 hlt6; have HO6 := hide hown6; have HG6 := hide hgrow6; have HA6 := hide hat6; have HO16 : Hid (w6.heap[w.heap.size + 1 + 1]? = some (.cells #[.int .i64 xk, .int .i64 xn, .slice oad al oc] 32 (0, 0))) := hide ((hgrow6.block _ HOl.out HNn.out).trans HO15.out); have f6 := (cell_of_blk HO16.out 2).trans rfl; have ff6 := unfrozen_of_blk HO16.out 2; clear hown6 hgrow6 hat6)
            | (go_simp; go_wp2_with (first | (go_at_call 46; refine (HBi.out _).mono ?_; rintro e w' ⟨rfl, rfl⟩) | (go_at_call 47; refine Calls.mono (HC.out _ HB3.out) ?_; rintro e w5 ⟨s5, rfl, hs5, hb5⟩; obtain ⟨pad, pc, rfl⟩ := hs5.form; have HS5 := hide hs5; have HB5 := hide hb5; clear hs5 hb5; have f0 := (HB5.out.cell (p := ⟨wr.heap.size, 0, none⟩) hsz3).trans e0; have f1 := (HB5.out.cell (p := ⟨wr.heap.size, 1, none⟩) hsz3).trans e1; have f2 := (HB5.out.cell (p := ⟨wr.heap.size, 2, none⟩) hsz3).trans e2; have f3 := (HB5.out.cell (p := ⟨w.heap.size, 0, none⟩) (show w.heap.size < w3.heap.size by omega)).trans e3; have f4 := (HB5.out.cell (p := ⟨w.heap.size + 1 + 1, 2, none⟩) (show w.heap.size + 1 + 1 < w3.heap.size by omega)).trans e4; have f5 : (w5.alloc (.cells #[.int .i64 zz.k, .int .i64 zz.n, .slice pad kk.len pc] 32)).cell? ⟨w.heap.size + 1 + 1, 2, none⟩ = some (.slice oad al oc) := (by rw [World.cell?_alloc_some _ _ _ (by rw [f4]; rfl)]; exact f4); have HOw5 : Hid ((w5.alloc (.cells #[.int .i64 zz.k, .int .i64 zz.n, .slice pad kk.len pc] 32)).ownsRow w0.heap.size 32 3 (.slice oad al oc) al cs) := hide ((tOwn_keep HOw.out (fun k _ hk => (HB5.out.block k (show k < w3.heap.size by omega)).trans (HBr3.out.block k hk))).alloc _); have HNw : Hid (∀ j u, (tC zz (.slice pad kk.len pc))[j]? = some u → (w5.alloc (.cells #[.int .i64 zz.k, .int .i64 zz.n, .slice pad kk.len pc] 32)).cell? ((⟨w5.heap.size, 0, none⟩ : Addr).add j) = some u) := hide (tC_cells (heap_alloc_new w5 _)); have hsz5 := HB5.out.size; have HBs : Hid (w0.heap.size ≤ (w5.alloc (.cells #[.int .i64 zz.k, .int .i64 zz.n, .slice pad kk.len pc] 32)).heap.size) := hide (by have h1 : w3.heap.size ≤ w5.heap.size := hsz5; simp; omega); have HO15 : Hid ((w5.alloc (.cells #[.int .i64 zz.k, .int .i64 zz.n, .slice pad kk.len pc] 32)).heap[w.heap.size + 1 + 1]? = some (.cells #[.int .i64 xk, .int .i64 xn, .slice oad al oc] 32 (0, 0))) := hide (by have h1 : w3.heap.size ≤ w5.heap.size := hsz5; rw [heap_alloc_old _ _ (by omega), HB5.out.block _ (show w.heap.size + 1 + 1 < w3.heap.size by omega)]; exact (HBr3.out.block _ (by omega)).trans HO1.out); have HOl : Hid (w.heap.size + 1 + 1 < (w5.alloc (.cells #[.int .i64 zz.k, .int .i64 zz.n, .slice pad kk.len pc] 32)).heap.size) := hide (Array.getElem?_eq_some_iff.1 HO15.out).1; have HNn : Hid (some (w.heap.size + 1 + 1) ≠ (Value.slice oad al oc).ownBlock) := hide (fun e => by have := (HNo.out _ e.symm).1; omega)))))
        all_goals
          have hrs := hide (row_step (F1 := shf by_ xk f 0 a) (HBr3.out.trans (show Below wr.heap.size w3 w5 from ⟨HB5.out.os, HB5.out.tape, HB5.out.output, HB5.out.size, fun k hk => HB5.out.block k (show k < w3.heap.size by omega)⟩)) HKs.out (HS5.out.weak (fun g h1 h2 => by have h3 : w3.heap.size ≤ g := h1; omega)) HO6.out HG6.out HA6.out HNo.out (show w.heap.size + 1 + 1 < w0.heap.size by omega) hszr HO1.out)
          clear HS5 HB5 f0 f1 f2 f3 f4 f5 HOw5 HNw hsz5 HBs HO15 HOl HNn HO6 HG6 HA6 HO16 f6 ff6 e0 e1 e2 e3 e4 HB3 HBr3 HNo HC HBi hXO hXO' hTO hw
          go_wp2_with fail
          obtain ⟨r1, r2, r3, r4, r5, r6, r7⟩ := hrs.out
          have hkl2 := HKl2.out
          refine ⟨⟨a.app (.cons y ky .nil), b, _, cs ++ tC zz (.slice pad kk.len pc), HSn.out, by rw [HDl.out]; go_num, hBr.trans (r7.mono (by omega)), by omega, (r4 _ (by omega) (by omega)).trans HT1.out, (r4 _ (by omega) (by omega)).trans HR1.out, r5, by rw [HSh.out]; exact r1, by rw [HDl.out]; exact r2, by rw [HDl.out]; exact r3⟩, by simp [intOf]; omega⟩
end Go.Proofs.Ytjalakdpmglamaa.W

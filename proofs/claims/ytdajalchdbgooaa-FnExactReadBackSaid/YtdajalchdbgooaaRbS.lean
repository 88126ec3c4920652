/-
  Values read back by the specification: what l6Back and l6Fill are handed and tell; l6Fill at a variable that is bound outside. Conditions: a good machine.
-/
import Derived.Test.YtdajalchdbgooaaJ12
import Derived.Test.YtdajalchdbgooaaTeU
import Derived.Deep.RegionHeld3
import Derived.Deep.CutRange
namespace Go.Proofs.Ytdajalchdbgooaa.W
open Go.ChangeShapes Go.WideShapes Go.ChangeAt Go.RowKit
set_option linter.unusedVariables false

/-- The code and the machine in memory, as l6Back is handed them. -/
structure SpE (w : World) (cb0 : Nat) (ad : Option Addr) (c : Nat) (l : List Cc) (mv : Value) (m : Mc) : Prop where
  code : w.cell? ⟨cb0, 0, none⟩ = some (.slice ad l.length c)
  row : CRow w ad l
  mr : MRow w mv m
theorem SpE.below {w w' : World} {cb0 : Nat} {ad : Option Addr} {c : Nat} {l : List Cc} {mv : Value} {m : Mc} (h : SpE w cb0 ad c l mv m) (hb : Below w.heap.size w w') : SpE w' cb0 ad c l mv m :=
  ⟨(hb.cell (p := ⟨cb0, 0, none⟩) (World.block_lt_of_cell? w _ h.code)).trans h.code, h.row.below hb, h.mr.below hb⟩
/-- What is told of a term that may be too great. -/
def SpV (w : World) (lo : Nat) (T : F) (e : Ending) : Prop :=
  if T.flat.length ≤ 600 then ∃ x k s, T = .cons x k .nil ∧ e = .returned (.tuple #[.agg #[.int .i64 x.k, .int .i64 x.n, s], .bool true]) ∧ KidT w (fun g => lo ≤ g) k s
  else e = .returned (.tuple #[.agg #[.int .i64 0, .int .i64 0, .slice none 0 0], .bool false])
/-- What l6Back does with the value n of these. -/
def BkV (cb0 : Nat) (ad : Option Addr) (c : Nat) (l : List Cc) (mv : Value) (m : Mc) (T : F) (v : Vl) : Prop := ∀ w, SpE w cb0 ad c l mv m →
    Calls Try.prog 60 #[.pointer (some ⟨cb0, 0, none⟩), mv, .agg #[.bool v.fn, .int .i64 v.num, .int .i64 v.pl, .int .i64 v.env]] w fun e w' => SpV w' w.heap.size T e ∧ Below w.heap.size w w'
/-- A box filled. -/
abbrev fill3 (w : World) (b : Nat) (x y z : Value) : World := ((w.setCell ⟨b, 0, none⟩ x).setCell ⟨b, 1, none⟩ y).setCell ⟨b, 2, none⟩ z
theorem fill3_at {w : World} {b : Nat} {x0 y0 z0 : Value} {T : TypeId} (h : w.heap[b]? = some (.cells #[x0, y0, z0] T (0, 0))) (x y z : Value) : (fill3 w b x y z).heap[b]? = some (.cells #[x, y, z] T (0, 0)) := by
  have := blk_setCell (i := 2) (blk_setCell (i := 1) (blk_setCell (i := 0) h x) y) z
  rw [this]
  simp
theorem fill3_ne {w : World} {b k : Nat} (hk : k ≠ b) (x y z : Value) : (fill3 w b x y z).heap[k]? = w.heap[k]? := by
  unfold fill3
  rw [Below.heap_setCell _ _ _ _ hk, Below.heap_setCell _ _ _ _ hk, Below.heap_setCell _ _ _ _ hk]
theorem fill3_size (w : World) (b : Nat) (x y z : Value) : (fill3 w b x y z).heap.size = w.heap.size := by simp [fill3, World.setCell]
theorem fill3_cell {w : World} {b k j : Nat} {v : Value} (hk : k ≠ b) (x y z : Value) (h : w.cell? ⟨k, j, none⟩ = some v) : (fill3 w b x y z).cell? ⟨k, j, none⟩ = some v := (World.cell?_of_block (a := ⟨k, j, none⟩) (fill3_ne hk x y z)).trans h
theorem below_fill3 {B : Nat} {a w : World} (h : Below B a w) {b : Nat} (hb : B ≤ b) (x y z : Value) : Below B a (fill3 w b x y z) := ((h.setCell (p := ⟨b, 0, none⟩) hb x).setCell (p := ⟨b, 1, none⟩) hb y).setCell (p := ⟨b, 2, none⟩) hb z
theorem kid_fill3 {w : World} {lo b : Nat} {k : F} {s : Value} (h : KidT w (fun g => lo ≤ g) k s) (hb : b < lo) (x y z : Value) : KidT (fill3 w b x y z) (fun g => lo ≤ g) k s :=
  h.keep (Nat.le_of_eq (fill3_size _ _ _ _ _).symm) (fun g hg _ => ⟨fill3_ne (by have h' : lo ≤ g := hg; omega) _ _ _, hg⟩)

theorem fil_one (R : Int → F) (bs : List Bd) (env : Int) (pk : Int) (d i : Nat) (x : Cc) (k : F) : fil R bs env pk d i (.cons x k .nil) = fil R bs env 0 (d + binds pk i) 0 (.cons x k .nil) := by
  simp only [fil, binds_0', Nat.add_zero]
theorem fil_app (R : Int → F) (bs : List Bd) (env : Int) (pk : Int) (d : Nat) : ∀ (a b : F) (i : Nat), fil R bs env pk d i (a.app b) = (fil R bs env pk d i a).app (fil R bs env pk d (i + a.len) b)
  | .nil, b, i => rfl
  | .cons x k r, b, i => by
    simp only [F.app, fil, fil_app R bs env pk d r b, F.len]
    rw [show i + 1 + r.len = i + (r.len + 1) by omega]
    split
    · rw [F.app_assoc]
    · rfl

def BLens (m : Mc) : Prop := m.bs.length ≤ 500 ∧ m.vs.length ≤ 500

set_option maxRecDepth 20000 in
set_option maxHeartbeats 8000000 in
theorem fill_var (cb0 : Nat) (ad : Option Addr) (c : Nat) (l : List Cc) (mv : Value) (m : Mc) (T : F) (env : Int) (hbs : bsOk m.vs.length m.bs = true) (hle : BLens m) (he : -1 ≤ env ∧ env < m.bs.length)
    (n : Int) (d q j : Nat) (s : Value) (w : World) (h0 : 0 ≤ n) (h9 : n ≤ 1000000) (hd : n - (d : Int) = (q : Int)) (hq : (q : Int) < (bw m.bs env).1) (hj : lkB m.bs q env = (j : Int)) (hjl : j < m.vs.length) (hB : BkV cb0 ad c l mv m T m.vs[j]) (hs : s = .slice none 0 0) (hE : SpE w cb0 ad c l mv m) :
    Calls Try.prog 85 #[.pointer (some ⟨cb0, 0, none⟩), mv, .agg #[.int .i64 1, .int .i64 n, s], .int .i64 env, .int .i64 (d : Int)] w fun e w' => SpV w' w.heap.size T e ∧ Below w.heap.size w w' := by
  subst hs
  have HE := hide hE
  have hmr := hE.mr
  have HBk := hide hB
  unfold BkV at HBk
  obtain ⟨af, cf, av, cv', ab, cb', rfl, h1, h2, h3, h4, h5, h6, h7, h8, h10⟩ := hmr
  have HBr := hide h3
  have HVr := hide h2
  have HBS := hide hbs
  have hnd : (d : Int) ≤ n := by omega
  have hq5 : q ≤ 1000000 := by omega
  have hwr : IntKind.i64.wrap (n - (d : Int)) = (q : Int) := by rw [IntWalk.i64_in _ ⟨by omega, by omega⟩]; exact hd
  have HD := hide hd
  have hnq : n = (q : Int) + (d : Int) := by omega
  subst hnq
  have HJ := hide hj
  obtain ⟨w0, hw0⟩ : ∃ w0, w0 = ((w.alloc (.cells #[.bool m.done, .int .i64 m.pl, .int .i64 m.env, .int .i64 m.val, .slice af m.fs.length cf, .slice av m.vs.length cv', .slice ab m.bs.length cb'] 28)).alloc (.cells #[.int .i64 1, .int .i64 ((q : Int) + (d : Int)), .slice none 0 0] 102)).alloc (.cells #[.int .i64 0, .int .i64 0, .slice none 0 0] 102) := ⟨_, rfl⟩
  have hB0 : Below w.heap.size w w0 := by rw [hw0]; exact (((Below.refl _ _).alloc (Nat.le_refl _) _).alloc (by simp) _).alloc (by simp; omega) _
  have hsz0 : w0.heap.size = w.heap.size + 1 + 1 + 1 := by rw [hw0]; simp
  have hbM : Bx w0 w.heap.size #[.bool m.done, .int .i64 m.pl, .int .i64 m.env, .int .i64 m.val, .slice af m.fs.length cf, .slice av m.vs.length cv', .slice ab m.bs.length cb'] 28 := by rw [hw0]; exact ((Bx.new _ _ _).alloc _).alloc _
  have hbR : Bx w0 (w.heap.size + 1 + 1) #[.int .i64 0, .int .i64 0, .slice none 0 0] 102 := by
    have := Bx.new ((w.alloc (.cells #[.bool m.done, .int .i64 m.pl, .int .i64 m.env, .int .i64 m.val, .slice af m.fs.length cf, .slice av m.vs.length cv', .slice ab m.bs.length cb'] 28)).alloc (.cells #[.int .i64 1, .int .i64 ((q : Int) + (d : Int)), .slice none 0 0] 102)) #[.int .i64 0, .int .i64 0, .slice none 0 0] 102
    rw [hw0]
    simpa using this
  have HB0 := hide hB0
  have HSz := hide hsz0
  have HBM := hide hbM
  have HBR := hide hbR
  have HW0 := hide hw0
  have hbl := hle.1
  have hvl := hle.2
  clear hw0 hE hB h1 h2 h3 hbs hd hj hB0 hsz0 hbM hbR hle
  go_enter Try.func85, Try.ntmps85
  go_wp2_with fail
  rw [← HW0.out]
  have hcm := HBM.out.c
  clear HW0
  go_loopw [3, 12] (fun ev i w' => ∃ (r : Nat) (en : Int), r ≤ q ∧ i = .int .i64 (r : Int) ∧ ev = .int .i64 en ∧ -1 ≤ en ∧ en < m.bs.length ∧ (r : Int) < (bw m.bs en).1 ∧ lkB m.bs r en = lkB m.bs q env ∧ w' = w0) (fun _ i _ => (intOf i).toNat)
  case atStart => exact ⟨q, env, Nat.le_refl _, by go_num, rfl, he.1, he.2, hq, rfl, rfl⟩
  case round =>
    obtain ⟨r, en, hr, rfl, rfl, e1, e2, e3, e4, hwe⟩ := hrel
    obtain rfl : w0 = wr := hwe.symm
    have e5 := (lkB_ok HBS.out r en e2 e3).2.2
    obtain ⟨k, rfl⟩ := Int.eq_ofNat_of_zero_le e5
    have hk : k < m.bs.length := by omega
    have hk' : (k : Int) < (m.bs.length : Int) := by omega
    obtain ⟨b, o, rfl, hb, q0, q1⟩ := BdRow.tok HBr.out HB0.out hk
    have E4 := hide e4
    clear e4
    by_cases hr0 : r = 0
    · subst hr0
      have hjv : m.bs[k].val = (j : Int) := by
        have := E4.out
        rw [HJ.out] at this
        have hx : m.bs[((k : Int)).toNat]? = some m.bs[k] := by simp [hk]
        rw [show lkB m.bs 0 (k : Int) = m.bs[k].val by rw [lkB, hx]] at this
        exact this
      rw [hjv] at q0
      obtain ⟨vb, vo, hva, hvb, p0, p1, p2, p3⟩ := VlRow.tok HVr.out HB0.out hjl
      subst hva
      have hji : (j : Int) < (m.vs.length : Int) := by omega
      have HB0d : Hid (Below w0.heap.size w0 w0.drew) := hide ⟨rfl, rfl, rfl, Nat.le_refl _, fun _ _ => rfl⟩
      have hbw : b < w0.heap.size := by have := HB0.out.size; omega
      have hvw : vb < w0.heap.size := by have := HB0.out.size; omega
      have hmw : w.heap.size < w0.heap.size := HBM.out.lt
      have hlR : w.heap.size + 1 + 1 < w0.heap.size := HBR.out.lt
      have HAll : Hid (∀ w', Below w0.heap.size w0 w' → w'.cell? ⟨w.heap.size, 0, none⟩ = some (.bool m.done) ∧ w'.cell? ⟨w.heap.size, 1, none⟩ = some (.int .i64 m.pl) ∧ w'.cell? ⟨w.heap.size, 2, none⟩ = some (.int .i64 m.env) ∧ w'.cell? ⟨w.heap.size, 3, none⟩ = some (.int .i64 m.val) ∧ w'.cell? ⟨w.heap.size, 4, none⟩ = some (.slice af m.fs.length cf) ∧ w'.cell? ⟨w.heap.size, 5, none⟩ = some (.slice (some ⟨vb, vo, none⟩) m.vs.length cv') ∧ w'.cell? ⟨w.heap.size, 6, none⟩ = some (.slice (some ⟨b, o, none⟩) m.bs.length cb') ∧ w'.cell? ⟨b, o + k * 2, none⟩ = some (.int .i64 (j : Int)) ∧ w'.cell? ⟨vb, vo + j * 4, none⟩ = some (.bool m.vs[j].fn) ∧ w'.cell? ⟨vb, vo + j * 4 + 1, none⟩ = some (.int .i64 m.vs[j].num) ∧ w'.cell? ⟨vb, vo + j * 4 + 2, none⟩ = some (.int .i64 m.vs[j].pl) ∧ w'.cell? ⟨vb, vo + j * 4 + 3, none⟩ = some (.int .i64 m.vs[j].env)) := hide (fun w' hb' => ⟨(hb'.cell (p := ⟨w.heap.size, 0, none⟩) hmw).trans ((HBM.out.c 0).trans rfl), (hb'.cell (p := ⟨w.heap.size, 1, none⟩) hmw).trans ((HBM.out.c 1).trans rfl), (hb'.cell (p := ⟨w.heap.size, 2, none⟩) hmw).trans ((HBM.out.c 2).trans rfl), (hb'.cell (p := ⟨w.heap.size, 3, none⟩) hmw).trans ((HBM.out.c 3).trans rfl), (hb'.cell (p := ⟨w.heap.size, 4, none⟩) hmw).trans ((HBM.out.c 4).trans rfl), (hb'.cell (p := ⟨w.heap.size, 5, none⟩) hmw).trans ((HBM.out.c 5).trans rfl), (hb'.cell (p := ⟨w.heap.size, 6, none⟩) hmw).trans ((HBM.out.c 6).trans rfl),
        (hb'.cell (p := ⟨b, o + k * 2, none⟩) hbw).trans q0, (hb'.cell (p := ⟨vb, vo + j * 4, none⟩) hvw).trans p0, (hb'.cell (p := ⟨vb, vo + j * 4 + 1, none⟩) hvw).trans p1, (hb'.cell (p := ⟨vb, vo + j * 4 + 2, none⟩) hvw).trans p2, (hb'.cell (p := ⟨vb, vo + j * 4 + 3, none⟩) hvw).trans p3⟩)
      have hn1 : w.heap.size ≠ w.heap.size + 1 + 1 := by omega
      have hn2 : b ≠ w.heap.size + 1 + 1 := by omega
      have hn3 : vb ≠ w.heap.size + 1 + 1 := by omega
      have HSet : Hid (∀ w' (x y z : Value), (w'.cell? ⟨w.heap.size, 0, none⟩ = some (.bool m.done) ∧ w'.cell? ⟨w.heap.size, 1, none⟩ = some (.int .i64 m.pl) ∧ w'.cell? ⟨w.heap.size, 2, none⟩ = some (.int .i64 m.env) ∧ w'.cell? ⟨w.heap.size, 3, none⟩ = some (.int .i64 m.val) ∧ w'.cell? ⟨w.heap.size, 4, none⟩ = some (.slice af m.fs.length cf) ∧ w'.cell? ⟨w.heap.size, 5, none⟩ = some (.slice (some ⟨vb, vo, none⟩) m.vs.length cv') ∧ w'.cell? ⟨w.heap.size, 6, none⟩ = some (.slice (some ⟨b, o, none⟩) m.bs.length cb') ∧ w'.cell? ⟨b, o + k * 2, none⟩ = some (.int .i64 (j : Int)) ∧ w'.cell? ⟨vb, vo + j * 4, none⟩ = some (.bool m.vs[j].fn) ∧ w'.cell? ⟨vb, vo + j * 4 + 1, none⟩ = some (.int .i64 m.vs[j].num) ∧ w'.cell? ⟨vb, vo + j * 4 + 2, none⟩ = some (.int .i64 m.vs[j].pl) ∧ w'.cell? ⟨vb, vo + j * 4 + 3, none⟩ = some (.int .i64 m.vs[j].env)) → (fill3 w' (w.heap.size + 1 + 1) x y z).cell? ⟨w.heap.size, 0, none⟩ = some (.bool m.done) ∧ (fill3 w' (w.heap.size + 1 + 1) x y z).cell? ⟨w.heap.size, 1, none⟩ = some (.int .i64 m.pl) ∧ (fill3 w' (w.heap.size + 1 + 1) x y z).cell? ⟨w.heap.size, 2, none⟩ = some (.int .i64 m.env) ∧ (fill3 w' (w.heap.size + 1 + 1) x y z).cell? ⟨w.heap.size, 3, none⟩ = some (.int .i64 m.val) ∧ (fill3 w' (w.heap.size + 1 + 1) x y z).cell? ⟨w.heap.size, 4, none⟩ = some (.slice af m.fs.length cf) ∧ (fill3 w' (w.heap.size + 1 + 1) x y z).cell? ⟨w.heap.size, 5, none⟩ = some (.slice (some ⟨vb, vo, none⟩) m.vs.length cv') ∧ (fill3 w' (w.heap.size + 1 + 1) x y z).cell? ⟨w.heap.size, 6, none⟩ = some (.slice (some ⟨b, o, none⟩) m.bs.length cb') ∧ (fill3 w' (w.heap.size + 1 + 1) x y z).cell? ⟨b, o + k * 2, none⟩ = some (.int .i64 (j : Int)) ∧ (fill3 w' (w.heap.size + 1 + 1) x y z).cell? ⟨vb, vo + j * 4, none⟩ = some (.bool m.vs[j].fn) ∧ (fill3 w' (w.heap.size + 1 + 1) x y z).cell? ⟨vb, vo + j * 4 + 1, none⟩ = some (.int .i64 m.vs[j].num) ∧ (fill3 w' (w.heap.size + 1 + 1) x y z).cell? ⟨vb, vo + j * 4 + 2, none⟩ = some (.int .i64 m.vs[j].pl) ∧ (fill3 w' (w.heap.size + 1 + 1) x y z).cell? ⟨vb, vo + j * 4 + 3, none⟩ = some (.int .i64 m.vs[j].env)) := hide (fun w' x y z ⟨j0, j1, j2, j3, j4, j5, j6, j7, j8, j9, j10, j11⟩ => ⟨fill3_cell hn1 _ _ _ j0, fill3_cell hn1 _ _ _ j1, fill3_cell hn1 _ _ _ j2, fill3_cell hn1 _ _ _ j3, fill3_cell hn1 _ _ _ j4, fill3_cell hn1 _ _ _ j5, fill3_cell hn1 _ _ _ j6, fill3_cell hn2 _ _ _ j7, fill3_cell hn3 _ _ _ j8, fill3_cell hn3 _ _ _ j9, fill3_cell hn3 _ _ _ j10, fill3_cell hn3 _ _ _ j11⟩)
      have HE0 : Hid (SpE w0.drew cb0 ad c l (.agg #[.bool m.done, .int .i64 m.pl, .int .i64 m.env, .int .i64 m.val, .slice af m.fs.length cf, .slice (some ⟨vb, vo, none⟩) m.vs.length cv', .slice (some ⟨b, o, none⟩) m.bs.length cb']) m) := hide ((HE.out.below HB0.out).below HB0d.out)
      obtain ⟨u0, u1, u2, u3, u4, u5, u6, u7, u8, u9, u10, u11⟩ := HAll.out w0.drew HB0d.out
      have hs0 := HB0.out.size
      have HSV := hide (show w.heap.size ≤ w0.heap.size from hs0)
      clear q0 q1 p0 p1 p2 p3 hjv hcm e1 e2 e3 hs0
      go_wp2_with fail
      by_cases h6 : T.flat.length ≤ 600
      · unfold SpV at HBk
        simp only [if_pos h6] at HBk
        go_region_held3 (fun w' => w'.cell? ⟨w.heap.size, 0, none⟩ = some (.bool m.done) ∧ w'.cell? ⟨w.heap.size, 1, none⟩ = some (.int .i64 m.pl) ∧ w'.cell? ⟨w.heap.size, 2, none⟩ = some (.int .i64 m.env) ∧ w'.cell? ⟨w.heap.size, 3, none⟩ = some (.int .i64 m.val) ∧ w'.cell? ⟨w.heap.size, 4, none⟩ = some (.slice af m.fs.length cf) ∧ w'.cell? ⟨w.heap.size, 5, none⟩ = some (.slice (some ⟨vb, vo, none⟩) m.vs.length cv') ∧ w'.cell? ⟨w.heap.size, 6, none⟩ = some (.slice (some ⟨b, o, none⟩) m.bs.length cb') ∧ w'.cell? ⟨b, o + k * 2, none⟩ = some (.int .i64 (j : Int)) ∧ w'.cell? ⟨vb, vo + j * 4, none⟩ = some (.bool m.vs[j].fn) ∧ w'.cell? ⟨vb, vo + j * 4 + 1, none⟩ = some (.int .i64 m.vs[j].num) ∧ w'.cell? ⟨vb, vo + j * 4 + 2, none⟩ = some (.int .i64 m.vs[j].pl) ∧ w'.cell? ⟨vb, vo + j * 4 + 3, none⟩ = some (.int .i64 m.vs[j].env)) (first | (with_reducible exact HAll.out _ HB0d.out) | (with_reducible exact HAll.out _ HX1.out) | (with_reducible exact HSet.out _ _ _ _ (HAll.out _ HX1.out)))
          (first
            | ((with_reducible refine Calls.mono (HBk.out _ HE0.out) ?_); rintro e W1 ⟨hv, hx⟩; have HX1 := hide (show Below w0.heap.size w0 W1 from ⟨hx.os, hx.tape, hx.output, hx.size, hx.block⟩); obtain ⟨tx, tk, ts, hTe, rfl, htk⟩ := hv; have HTk := hide htk; obtain ⟨ta, tc, rfl⟩ := htk.form; obtain ⟨tn, htn⟩ : ∃ tn, tn = tk.len := ⟨_, rfl⟩; rw [← htn] at HTk ⊢; have HTe := hide hTe; clear htk htn hTe; have hzr : W1.heap[w.heap.size + 1 + 1]? = some (.cells #[.int .i64 0, .int .i64 0, .slice none 0 0] 102 (0, 0)) := (HX1.out.block (w.heap.size + 1 + 1) hlR).trans HBR.out; have zr0 : W1.cell? ⟨w.heap.size + 1 + 1, 0, none⟩ = some (.int .i64 0) := (cell_of_blk hzr 0).trans rfl; have zr1 : W1.cell? ⟨w.heap.size + 1 + 1, 1, none⟩ = some (.int .i64 0) := (cell_of_blk hzr 1).trans rfl; have zr2 : W1.cell? ⟨w.heap.size + 1 + 1, 2, none⟩ = some (.slice none 0 0) := (cell_of_blk hzr 2).trans rfl; have zrf := unfrozen_of_blk hzr; have HZr := hide hzr; clear hzr hx))
        go_wp2_with fail
        have hre := fill3_at HZr.out (.int .i64 tx.k) (.int .i64 tx.n) (.slice ta tn tc)
        have r0 := (cell_of_blk hre 0).trans rfl
        have r1 := (cell_of_blk hre 1).trans rfl
        have r2 := (cell_of_blk hre 2).trans rfl
        have hlo := HSz.out
        refine bodyPost_ret (v := .tuple #[.agg #[.int .i64 tx.k, .int .i64 tx.n, .slice ta tn tc], .bool true]) (by simp [results, Try.results85, go_sem, r0, r1, r2]) rfl ⟨?_, below_fill3 (HB0.out.trans (HX1.out.mono HB0.out.size)) (by omega) _ _ _⟩
        unfold SpV
        rw [if_pos h6]
        exact ⟨tx, tk, _, HTe.out, rfl, (kid_fill3 (lo := w0.heap.size) HTk.out (by omega) _ _ _).weak (fun g hg _ => by have h' : w0.heap.size ≤ g := hg; omega)⟩
      · unfold SpV at HBk
        simp only [if_neg h6] at HBk
        go_region_held3 (fun w' => w'.cell? ⟨w.heap.size, 0, none⟩ = some (.bool m.done) ∧ w'.cell? ⟨w.heap.size, 1, none⟩ = some (.int .i64 m.pl) ∧ w'.cell? ⟨w.heap.size, 2, none⟩ = some (.int .i64 m.env) ∧ w'.cell? ⟨w.heap.size, 3, none⟩ = some (.int .i64 m.val) ∧ w'.cell? ⟨w.heap.size, 4, none⟩ = some (.slice af m.fs.length cf) ∧ w'.cell? ⟨w.heap.size, 5, none⟩ = some (.slice (some ⟨vb, vo, none⟩) m.vs.length cv') ∧ w'.cell? ⟨w.heap.size, 6, none⟩ = some (.slice (some ⟨b, o, none⟩) m.bs.length cb') ∧ w'.cell? ⟨b, o + k * 2, none⟩ = some (.int .i64 (j : Int)) ∧ w'.cell? ⟨vb, vo + j * 4, none⟩ = some (.bool m.vs[j].fn) ∧ w'.cell? ⟨vb, vo + j * 4 + 1, none⟩ = some (.int .i64 m.vs[j].num) ∧ w'.cell? ⟨vb, vo + j * 4 + 2, none⟩ = some (.int .i64 m.vs[j].pl) ∧ w'.cell? ⟨vb, vo + j * 4 + 3, none⟩ = some (.int .i64 m.vs[j].env)) (first | (with_reducible exact HAll.out _ HB0d.out) | (with_reducible exact HAll.out _ HX1.out) | (with_reducible exact HSet.out _ _ _ _ (HAll.out _ HX1.out)))
          (first
            | ((with_reducible refine Calls.mono (HBk.out _ HE0.out) ?_); rintro e W1 ⟨hv, hx⟩; have HX1 := hide (show Below w0.heap.size w0 W1 from ⟨hx.os, hx.tape, hx.output, hx.size, hx.block⟩); subst hv; have hzr : W1.heap[w.heap.size + 1 + 1]? = some (.cells #[.int .i64 0, .int .i64 0, .slice none 0 0] 102 (0, 0)) := (HX1.out.block (w.heap.size + 1 + 1) hlR).trans HBR.out; have zr0 : W1.cell? ⟨w.heap.size + 1 + 1, 0, none⟩ = some (.int .i64 0) := (cell_of_blk hzr 0).trans rfl; have zr1 : W1.cell? ⟨w.heap.size + 1 + 1, 1, none⟩ = some (.int .i64 0) := (cell_of_blk hzr 1).trans rfl; have zr2 : W1.cell? ⟨w.heap.size + 1 + 1, 2, none⟩ = some (.slice none 0 0) := (cell_of_blk hzr 2).trans rfl; have zrf := unfrozen_of_blk hzr; have HZr := hide hzr; clear hzr hx))
        go_wp2_with fail
        have hre := fill3_at HZr.out (.int .i64 0) (.int .i64 0) (.slice none 0 0)
        have r0 := (cell_of_blk hre 0).trans rfl
        have r1 := (cell_of_blk hre 1).trans rfl
        have r2 := (cell_of_blk hre 2).trans rfl
        have hlo := HSz.out
        refine bodyPost_ret (v := .tuple #[.agg #[.int .i64 0, .int .i64 0, .slice none 0 0], .bool false]) (by simp [results, Try.results85, go_sem, r0, r1, r2]) rfl ⟨?_, below_fill3 (HB0.out.trans (HX1.out.mono HB0.out.size)) (by omega) _ _ _⟩
        unfold SpV
        rw [if_neg h6]
    · have hri : (0 : Int) < (r : Int) := by omega
      go_wp2_with fail
      have hst := bw_step HBS.out hk
      have hbd := bsOk_at HBS.out hk
      refine ⟨⟨r - 1, m.bs[k].up, by omega, by go_num, rfl, by omega, by omega, ?_, ?_, by trivial⟩, by simp [intOf]; omega⟩
      · rw [hst] at e3
        simp only at e3
        omega
      · rw [← E4.out]
        obtain ⟨r', rfl⟩ : ∃ r', r = r' + 1 := ⟨r - 1, by omega⟩
        have hx : m.bs[((k : Int)).toNat]? = some m.bs[k] := by simp [hk]
        rw [show lkB m.bs (r' + 1) (k : Int) = lkB m.bs r' m.bs[k].up by rw [lkB, hx], Nat.add_sub_cancel]
end Go.Proofs.Ytdajalchdbgooaa.W

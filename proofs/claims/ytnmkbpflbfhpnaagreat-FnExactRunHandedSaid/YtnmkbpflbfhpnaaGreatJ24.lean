/-
  Some texts of this proof in one: MaR8, MaS6, MaS5.
-/
import Derived.Test.YtnmkbpflbfhpnaaGreatJ23
import Derived.Deep.RegionHeld3
import Derived.Deep.RegionLaw
import Derived.Deep.AppendLies
import Derived.Deep.CutRange
/-
  Contracts of add and call of a running machine. Conditions: good machines of closed terms.
-/
namespace Go.Proofs.YtnmkbpflbfhpnaaGreat.W
open Go.ChangeShapes Go.WideShapes Go.ChangeAt Go.RowKit
set_option linter.unusedVariables false

def cdOf : Mc ⊕ Int → Int
  | .inl _ => 0
  | .inr c => c
def mcOf (m : Mc) : Mc ⊕ Int → Mc
  | .inl m' => m'
  | .inr _ => m
theorem RunOut.get {e : Ending} {w' : World} {rb lo : Nat} {tv : Value} {m : Mc} {s : Mc ⊕ Int} (h : RunOut e w' rb lo tv m s) : e = .returned (.int .i64 (cdOf s)) ∧ RB w' rb lo tv (mcOf m s) := by
  cases s with
  | inl m' => exact h
  | inr c => exact h
theorem RunOut.put {e : Ending} {w' : World} {rb lo : Nat} {tv : Value} {m : Mc} {s : Mc ⊕ Int} (h : e = .returned (.int .i64 (cdOf s)) ∧ RB w' rb lo tv (mcOf m s)) : RunOut e w' rb lo tv m s := by
  cases s with
  | inl m' => exact h
  | inr c => exact h

set_option maxRecDepth 20000 in
set_option maxHeartbeats 2000000 in
theorem add_any (rb lo : Nat) (tv : Value) (m : Mc) (u : Vl) (i : Nat) (w : World) (h : RB w rb lo tv m) (hle : lo ≤ w.heap.size)
    (hf : 0 < m.fs.length) (hi : i < m.vs.length) (hv : m.val = (i : Int)) (hnv : m.vs.length ≤ 500) (hu : -1000000 ≤ u.num ∧ u.num ≤ 1000000) (hw : -1000000 ≤ m.vs[i].num ∧ m.vs[i].num ≤ 1000000) (htv : ∃ tn ta tc, tv = .slice ta tn tc) :
    Calls Tryz.prog 85 #[.pointer (some ⟨rb, 0, none⟩), u.v] w fun r w' =>
      RunOut r w' rb lo tv m (if u.fn = true ∨ m.vs[i].fn = true ∨ inB (u.num + m.vs[i].num) (-1000000) 1000000 = false then .inr 3 else newM { m with fs := m.fs.dropLast } ⟨false, u.num + m.vs[i].num, 0, 0⟩) ∧ Below lo w w' := by
  have hrl := h.lt.1
  have hrb := h.lt.2
  obtain ⟨tn, ta, tc, rfl⟩ := htv
  have hB0 : Below w.heap.size w (w.alloc (.cells #[.bool u.fn, .int .i64 u.num, .int .i64 u.pl, .int .i64 u.env] 69)) := (Below.refl _ _).alloc (Nat.le_refl _) _
  have hV := Bx.new w #[.bool u.fn, .int .i64 u.num, .int .i64 u.pl, .int .i64 u.env] 69
  have hR0 := h.below hB0
  obtain ⟨af, cf, av, cv, ab, cb, h1, h2, h3, h4, -⟩ := hR0.slots
  obtain ⟨w0, hw0⟩ : ∃ w0, w0 = w.alloc (.cells #[.bool u.fn, .int .i64 u.num, .int .i64 u.pl, .int .i64 u.env] 69) := ⟨_, rfl⟩
  rw [← hw0] at hB0 hV hR0 h1 h3
  have HR0 := hide hR0
  have HV := hide hV
  have HCm := hide (cameTo_any m.done m.pl m.env i (.slice af m.fs.length cf) (.slice ab m.bs.length cb) av cv m.vs w0 (RRow.ofOwn h3 rfl) hi (by omega))
  have hc := h1.c
  rw [hv] at hc
  have hvl := hV.lt
  obtain ⟨y, hy⟩ : ∃ y, y = m.vs[i] := ⟨_, rfl⟩
  rw [← hy] at HCm hw ⊢
  clear h h1 h2 h3 h4 hR0 hV hy hv
  obtain ⟨y0, y1, y2, y3⟩ := y
  obtain ⟨u0, u1, u2, u3⟩ := u
  simp only at hu hw HV hw0 ⊢
  obtain ⟨hu1, hu2⟩ := hu
  obtain ⟨hw1, hw2⟩ := hw
  have HG := hide (goodCell_any ⟨2, u1 + y1⟩)
  have HGe : Hid (goodC ⟨2, u1 + y1⟩ = inB (u1 + y1) (-1000000) 1000000) := hide (by unfold goodC; simp)
  obtain ⟨G, hG⟩ : ∃ G, G = inB (u1 + y1) (-1000000) 1000000 := ⟨_, rfl⟩
  rw [HGe.out, ← hG] at HG
  rw [← hG]
  clear HGe hG
  go_enter Tryz.func85, Tryz.ntmps85
  go_upto_region 1 with fail
  rw [← hw0]
  clear hw0
  go_wp2_with fail
  refine HCm.out.mono ?_
  rintro r w1 ⟨rfl, hb1⟩
  have HV1 := hide (HV.out.below hb1 hvl)
  have HR1 := hide (HR0.out.below hb1)
  have hB1 : Below lo w w1 := (hB0.mono hle).trans (hb1.mono (Nat.le_trans hle hB0.size))
  have hs1 : w.heap.size < w1.heap.size := HV1.out.lt
  clear hb1 hc HV HR0 HCm
  have hlz : lo ≤ w1.heap.size := Nat.le_trans hle hB1.size
  have hA := Bx.new w1 #[.bool y0, .int .i64 y1, .int .i64 y2, .int .i64 y3] 69
  have hq1 : Below w1.heap.size w1 (w1.alloc (.cells #[.bool y0, .int .i64 y1, .int .i64 y2, .int .i64 y3] 69)) := (Below.refl _ _).alloc (Nat.le_refl _) _
  have hV2 := HV1.out.alloc (.cells #[.bool y0, .int .i64 y1, .int .i64 y2, .int .i64 y3] 69)
  have hR2 := HR1.out.below hq1
  have hB2 := hB1.alloc hlz (.cells #[.bool y0, .int .i64 y1, .int .i64 y2, .int .i64 y3] 69)
  go_upto_region 2 with fail
  obtain ⟨w2, hw2'⟩ : ∃ w2, w2 = w1.alloc (.cells #[.bool y0, .int .i64 y1, .int .i64 y2, .int .i64 y3] 69) := ⟨_, rfl⟩
  have hs2 : w2.heap.size = w1.heap.size + 1 := by rw [hw2']; simp
  rw [← hw2'] at hA hV2 hR2 hB2 ⊢
  clear hw2' HV1 HR1 hq1 hB1
  have HR2 := hide hR2
  have ca := hA.c
  have cv2 := hV2.c
  have hs2' : w1.heap.size < w2.heap.size := by omega
  have hs2'' : w.heap.size < w2.heap.size := by omega
  clear hs2
  have hB3 := hB2.alloc (Nat.le_trans hle hB2.size) (.cells #[.int .i64 2, .int .i64 (u1 + y1)] 46)
  have hS3 := Bx.new w2 #[.int .i64 2, .int .i64 (u1 + y1)] 46
  have ca3 := (hA.alloc (.cells #[.int .i64 2, .int .i64 (u1 + y1)] 46)).c
  have cv3 := (hV2.alloc (.cells #[.int .i64 2, .int .i64 (u1 + y1)] 46)).c
  have HR3 := hide (HR2.out.below ((Below.refl _ _).alloc (Nat.le_refl _) (.cells #[.int .i64 2, .int .i64 (u1 + y1)] 46)))
  clear hA hV2 hR2 HR2
  cases u0 with
  | true =>
    go_wp2_with fail
    go_ret
    exact ⟨⟨rfl, HR3.out⟩, hB3⟩
  | false =>
    cases y0 with
    | true =>
      go_wp2_with fail
      go_ret
      exact ⟨⟨rfl, HR3.out⟩, hB3⟩
    | false =>
      have cs3 := hS3.c
      obtain ⟨w3, hw3⟩ : ∃ w3, w3 = w2.alloc (.cells #[.int .i64 2, .int .i64 (u1 + y1)] 46) := ⟨_, rfl⟩
      go_upto_region 3 with fail
      rw [← hw3] at cs3 ca3 cv3 HR3 hB3 hS3 ⊢
      have HS3 := hide hS3
      have hsl := hS3.lt
      clear hw3 ca cv2 hS3
      go_wp2_with fail
      refine (HG.out _).mono ?_
      rintro r w4 ⟨rfl, hb4⟩
      have hz3 : lo ≤ w3.heap.size := Nat.le_trans hle hB3.size
      have HR4 := hide (HR3.out.below hb4)
      have hB4 : Below lo w w4 := hB3.trans (hb4.mono hz3)
      have hS4 := HS3.out.below hb4 hsl
      have cs4 := hS4.c
      have hz4 : lo ≤ w4.heap.size := Nat.le_trans hle hB4.size
      clear hb4 hS4 HS3 cs3 ca3 cv3 HR3 hB3 HG
      cases G with
      | false =>
        go_wp2_with fail
        go_ret
        exact ⟨⟨rfl, HR4.out⟩, hB4⟩
      | true =>
        go_wp2_with fail
        refine (comeNew_any rb lo _ m ⟨false, u1 + y1, 0, 0⟩ _ HR4.out hnv hz4).mono ?_
        rintro r w5 ⟨ho5, hb5⟩
        have hB5 : Below lo w w5 := hB4.trans hb5
        clear cs4
        unfold newM at ho5
        by_cases hfl : 500 ≤ m.vs.length
        · rw [if_pos hfl] at ho5
          obtain ⟨rfl, hR5⟩ := ho5
          go_wp2_with fail
          go_ret
          refine ⟨?_, hB5⟩
          first
            | exact ⟨rfl, hR5⟩
            | (simp [newM, hfl]; exact ⟨rfl, hR5⟩)
        · rw [if_neg hfl] at ho5
          obtain ⟨rfl, hR5⟩ := ho5
          have HR5 := hide hR5
          clear hR5
          go_wp2_with fail
          refine (dropFrame_any rb lo _ _ _ HR5.out hf).mono ?_
          rintro r w6 ⟨rfl, hR6, hO6⟩
          go_wp2_with fail
          go_ret
          refine ⟨?_, hB5.trans (hO6.below (Nat.le_trans hle hB5.size) hrb)⟩
          first
            | exact ⟨rfl, hR6⟩
            | (simp [newM, hfl]; exact ⟨rfl, hR6⟩)

set_option maxRecDepth 20000 in
set_option maxHeartbeats 2000000 in
theorem call_any (rb lo : Nat) (ad : Option Addr) (c : Nat) (l : List Cc) (a : F) (m : Mc) (u : Vl) (p : Nat) (x : Cc) (d : Nat) (k : F) (w : World) (hCl : Cl l a) (h : RB w rb lo (.slice ad l.length c) m) (hT : TR w lo ad c l)
    (hu : u.fn = true → u.pl = (p : Int) ∧ (ndT a)[p]? = some (x, d, k) ∧ 0 < ar x.k) (hf : 0 < m.fs.length) (hnb : m.bs.length ≤ 500) :
    Calls Tryz.prog 84 #[.pointer (some ⟨rb, 0, none⟩), u.v] w fun r w' =>
      RunOut r w' rb lo (.slice ad l.length c) m (if u.fn = true then bindM m u.env (kp a u.pl 0) else .inr 3) ∧ Below lo w w' := by
  have hrl := h.lt.1
  have hrb := h.lt.2
  have hle := hT.le
  have hB0 : Below w.heap.size w (w.alloc (.cells #[.bool u.fn, .int .i64 u.num, .int .i64 u.pl, .int .i64 u.env] 69)) := (Below.refl _ _).alloc (Nat.le_refl _) _
  have hV := Bx.new w #[.bool u.fn, .int .i64 u.num, .int .i64 u.pl, .int .i64 u.env] 69
  have hR0 := h.below hB0
  have hT0 := hT.below (hB0.mono hT.le)
  obtain ⟨af, cf, av, cv, ab, cb, h1, -⟩ := hR0.slots
  obtain ⟨w0, hw0⟩ : ∃ w0, w0 = w.alloc (.cells #[.bool u.fn, .int .i64 u.num, .int .i64 u.pl, .int .i64 u.env] 69) := ⟨_, rfl⟩
  rw [← hw0] at hB0 hV hR0 h1 hT0
  have HR0 := hide hR0
  have HT0 := hide hT0
  have HV := hide hV
  have hvl := hV.lt
  have hz0 : lo ≤ w0.heap.size := Nat.le_trans hle hB0.size
  obtain ⟨u0, u1, u2, u3⟩ := u
  simp only at hu hV HV hw0 ⊢
  cases u0 with
  | false =>
    have hcv := hV.c
    clear h h1 hR0 hT0 hV hT hCl hu
    go_enter Tryz.func84, Tryz.ntmps84
    go_upto_region 1 with fail
    rw [← hw0]
    clear hw0
    go_wp2_with fail
    go_ret
    exact ⟨⟨rfl, HR0.out⟩, hB0.mono hle⟩
  | true =>
    obtain ⟨rfl, hn, har⟩ := hu rfl
    have HP := hide (fun w' (hb : CRow w' ad l) => partNo_any ad c l a p u3 0 x d k w' hCl hn har hT.cap hT.max hb)
    rw [show ((0 : Nat) : Int) = 0 from rfl] at HP
    have v0 : w0.cell? ⟨w.heap.size, 0, none⟩ = some (.bool true) := hV.c 0
    have v2 : w0.cell? ⟨w.heap.size, 2, none⟩ = some (.int .i64 (p : Int)) := hV.c 2
    have v3 : w0.cell? ⟨w.heap.size, 3, none⟩ = some (.int .i64 u3) := hV.c 3
    have t0 : w0.cell? ⟨rb, 0, none⟩ = some (.slice ad l.length c) := h1.c 0
    clear h h1 hR0 hT0 hV hT hCl hu hn har
    go_enter Tryz.func84, Tryz.ntmps84
    go_upto_region 1 with fail
    rw [← hw0]
    clear hw0
    go_upto_region 3 with fail
    go_region_held3 (fun w' => w'.cell? ⟨rb, 0, none⟩ = some (.slice ad l.length c) ∧ w'.cell? ⟨w.heap.size, 2, none⟩ = some (.int .i64 (p : Int)) ∧ w'.cell? ⟨w.heap.size, 3, none⟩ = some (.int .i64 u3)) (go_keep)
      (first | fail)
    have hq : Below w0.heap.size w0 (w0.alloc (.cells #[.slice ad l.length c, .int .i64 (p : Int), .int .i64 u3] 136)).drew := belowDrew ((Below.refl _ _).alloc (Nat.le_refl _) _)
    have hP1 := (Bx.new w0 #[.slice ad l.length c, .int .i64 (p : Int), .int .i64 u3] 136).drew
    obtain ⟨w1, hw1⟩ : ∃ w1, w1 = (w0.alloc (.cells #[.slice ad l.length c, .int .i64 (p : Int), .int .i64 u3] 136)).drew := ⟨_, rfl⟩
    rw [← hw1] at hq hP1 ⊢
    have HR1 := hide (HR0.out.below hq)
    have HT1 := hide (HT0.out.below (hq.mono hz0))
    have hB1 : Below lo w w1 := (hB0.mono hle).trans (hq.mono hz0)
    have hcp := hP1.c
    clear hw1 v0 v2 v3 t0 hP1
    go_wp2_with fail
    refine (HP.out _ HT1.out.now).mono ?_
    rintro r w2 ⟨rfl, hb2⟩
    have HR2 := hide (HR1.out.below hb2)
    have hz1 : lo ≤ w1.heap.size := Nat.le_trans hle hB1.size
    have hB2 : Below lo w w2 := hB1.trans (hb2.mono hz1)
    clear hcp hb2
    go_wp2_with fail
    refine (bind_any rb lo _ _ m _ _ _ HR2.out hnb hf (Nat.le_trans hle hB2.size) ⟨_, _, _, rfl⟩).mono ?_
    rintro r w3 ⟨ho3, hb3⟩
    have hB3 := hB2.trans hb3
    cases hbm : bindM m u3 (kp a p 0) with
    | inl m' =>
      rw [hbm] at ho3
      obtain ⟨rfl, hR3⟩ := ho3
      go_wp2_with fail
      go_ret
      refine ⟨?_, hB3⟩
      first
        | exact ⟨rfl, hR3⟩
        | (simp only [if_true, hbm]; exact ⟨rfl, hR3⟩)
    | inr cd =>
      rw [hbm] at ho3
      obtain ⟨rfl, hR3⟩ := ho3
      go_wp2_with fail
      go_ret
      refine ⟨?_, hB3⟩
      first
        | exact ⟨rfl, hR3⟩
        | (simp only [if_true, hbm]; exact ⟨rfl, hR3⟩)
end Go.Proofs.YtnmkbpflbfhpnaaGreat.W

/-
  A contract of goOn of a running machine at a first part that came. Conditions: good machines of closed terms.
-/
namespace Go.Proofs.YtnmkbpflbfhpnaaGreat.W
open Go.ChangeShapes Go.WideShapes Go.ChangeAt Go.RowKit
set_option linter.unusedVariables false

theorem rcells_last (l : List Fm) (f : Fm) (v : Int) (h : l.getLast? = some f) : rcells 4 Fm.c (l.dropLast ++ [{ f with val := v }]) = (rcells 4 Fm.c l).set ((l.length - 1) * 4 + 3) (.int .i64 v) := by
  rcases List.eq_nil_or_concat l with rfl | ⟨a, x, rfl⟩
  · simp at h
  · rw [List.concat_eq_append] at h ⊢
    simp only [List.getLast?_append, List.getLast?_singleton, Option.some_or, Option.some.injEq] at h
    subst h
    rw [List.dropLast_concat, rcells_app, rcells_app, List.set_append_right _ _ (by rw [rcells_len]; simp), rcells_len]
    congr 1
    simp [rcells, List.range_succ, Fm.c]
/-- The last frame's value is set. -/
theorem own_last {w : World} {lo c g : Nat} {l : List Fm} {f : Fm} {T : TypeId} (h : w.ownsRow lo T 4 (.slice (some ⟨g, 0, none⟩) l.length c) l.length (rcells 4 Fm.c l)) (hf : l.getLast? = some f) (v : Int) (hn : 0 < l.length) :
    (w.setCell ⟨g, (l.length - 1) * 4 + 3, none⟩ (.int .i64 v)).ownsRow lo T 4 (.slice (some ⟨g, 0, none⟩) l.length c) l.length (rcells 4 Fm.c (l.dropLast ++ [{ f with val := v }])) := by
  rcases h.2 with ⟨h1, h2⟩ | ⟨g', cap, cur, h1, hg, hh, h2, h3, h4, h5⟩
  · cases h1
  · simp only [Value.slice.injEq, Option.some.injEq, Addr.mk.injEq, and_true] at h1
    obtain ⟨rfl, -, rfl⟩ := h1
    refine ⟨by rw [rcells_len]; simp; omega, .inr ⟨g, c, _, rfl, hg, blk_setCell hh _, h2, h3, by simpa using h4, ?_⟩⟩
    rw [rcells_last l f v hf, ← h5, Array.toList_setIfInBounds, List.take_set]

set_option maxRecDepth 20000 in
set_option maxHeartbeats 4000000 in
theorem goOn_first (rb lo : Nat) (ad : Option Addr) (c : Nat) (l : List Cc) (a : F) (m : Mc) (f : Fm) (w : World) (hCl : Cl l a) (h : RB w rb lo (.slice ad l.length c) m) (hT : TR w lo ad c l) (hG : GM a l m) (hd : Hid (m.done = true)) (hf : m.fs.getLast? = some f) (k45 : Hid (f.k = 4 ∨ f.k = 5)) (hv0 : Hid (f.val = -1)) :
    Calls Tryz.prog 45 #[.pointer (some ⟨rb, 0, none⟩)] w fun r w' => RunOut r w' rb lo (.slice ad l.length c) m (goM a l m f) ∧ Below lo w w' := by
  have hrl := h.lt.1
  have hrb := h.lt.2
  have hle := hT.le
  have hmem : f ∈ m.fs := List.mem_of_getLast? hf
  have hfn : 0 < m.fs.length := List.length_pos_of_mem hmem
  obtain ⟨d1, d2, d3, d4⟩ := nOk_done hG.now hd.out
  obtain ⟨p1, p2, p3, p4⟩ := fOk_parts (hG.fs f hmem)
  obtain ⟨q1, q2, q3⟩ := pOk_iff.1 p1
  obtain ⟨x, e, k, x1, x2, x3, x4, x5, x6, x7⟩ := hCl.part q1
  obtain ⟨p, hp⟩ := Int.eq_ofNat_of_zero_le q1.1
  have hp' : f.pl.toNat = p := by rw [hp]; rfl
  rw [hp'] at x1 x2 x3
  have hpl : p < l.length := by have := q1.2; omega
  have hlx : l[p] = x := by rw [List.getElem?_eq_getElem hpl] at x2; simpa using x2
  have HXk : Hid (x.k = f.k) := hide (by rw [← x4, p2])
  have hl6 := hCl.le
  have HLF := hide (lastFrame_any rb lo _ m w h hfn hG.nf f hf ⟨_, _, _, rfl⟩)
  rw [hp] at HLF
  obtain ⟨i, hi⟩ := Int.eq_ofNat_of_zero_le d3
  have hil : i < m.vs.length := by omega
  have HVi := hide hi
  have HR := hide h
  have HT := hide hT
  have HG := hide hG
  have HCl := hide hCl
  have HX1 := hide x1
  have HP := hide hp
  have HP4 := hide p4
  have HQ2 := hide q2
  have HD := hide (And.intro d1 d2)
  have hlast := hide hf
  clear h hT hG hd hf hmem p1 p2 q1 q3 x1 x2 x3 x4 x5 x6 x7 hp hp' d1 d2 hi hCl p4 q2
  go_enter Tryz.func45, Tryz.ntmps45
  go_wp2_with fail
  refine HLF.out.mono ?_
  rintro r w1 ⟨rfl, hb1⟩
  have HR1 := hide (HR.out.below hb1)
  have HT1 := hide (HT.out.below (hb1.mono hle))
  have hz1 : lo ≤ w1.heap.size := Nat.le_trans hle hb1.size
  have hW2 := Bx.new w1 #[.slice ad l.length c, .int .i64 (p : Int), .int .i64 f.env, .int .i64 f.val] 145
  have hq2 : Below w1.heap.size w1 (w1.alloc (.cells #[.slice ad l.length c, .int .i64 (p : Int), .int .i64 f.env, .int .i64 f.val] 145)) := (Below.refl _ _).alloc (Nat.le_refl _) _
  go_upto_region 2 with fail
  obtain ⟨w2, hw2⟩ : ∃ w2, w2 = w1.alloc (.cells #[.slice ad l.length c, .int .i64 (p : Int), .int .i64 f.env, .int .i64 f.val] 145) := ⟨_, rfl⟩
  rw [← hw2] at hW2 hq2 ⊢
  clear hw2 HLF
  have HR2 := hide (HR1.out.below hq2)
  have HT2 := hide (HT1.out.below (hq2.mono hz1))
  have hB2 : Below w.heap.size w w2 := hb1.trans (hq2.mono hb1.size)
  have HW2 := hide hW2
  have hwl := hW2.lt
  have hcw := hW2.c
  clear hW2 HR1 HT1 hq2
  have hz2 : lo ≤ w2.heap.size := Nat.le_trans hle hB2.size
  go_wp2_with fail
  refine (taskCell_any ad c l p f.env _ HT2.out.now hpl (by omega)).mono ?_
  rw [hlx]
  rintro r w3 ⟨rfl, hb3⟩
  have HR3 := hide (HR2.out.below hb3)
  have HT3 := hide (HT2.out.below (hb3.mono hz2))
  have HW3 := hide (HW2.out.below hb3 hwl)
  have hB3 : Below w.heap.size w w3 := hB2.trans (hb3.mono hB2.size)
  have hz3 : lo ≤ w3.heap.size := Nat.le_trans hle hB3.size
  have hwl3 := HW3.out.lt
  clear hcw hb3 HR2 HT2 HW2
  have hcw := HW3.out.c
  have hrw : ¬ rb = w1.heap.size := by have := hb1.size; omega
  have hfd := fieldCell
  rw [HXk.out]
  have hk6 : ¬ f.k = 6 := by have := k45.out; omega
  have hk7 : ¬ f.k = 7 := by have := k45.out; omega
  have har : ar x.k = 2 := by rw [HXk.out]; unfold ar; rw [if_neg (by have := k45.out; omega), if_pos (by have := k45.out; omega)]
  have HPt := hide (fun w' (hb : CRow w' ad l) => partNo_any ad c l a p f.env 1 x e k w' HCl.out HX1.out (by omega) HT3.out.cap HT3.out.max hb)
  rw [show ((1 : Nat) : Int) = 1 from rfl] at HPt
  have HHf := hide (fun (w' : World) => hasFirst_any (.slice ad l.length c) (p : Int) f.env (-1) w' false (by decide) ⟨_, _, _, rfl⟩)
  rw [hv0.out] at hcw
  have hgo : goM a l m f = .inl (nextM { m with fs := m.fs.dropLast ++ [{ f with val := m.val }] } (kp a p 1) f.env) := by
    unfold goM; rw [if_neg hk6, if_neg hk7, if_pos hv0.out, HP.out]
  have HGo := hide hgo
  obtain ⟨af, cf, av, cv, ab, cb, g1, g2, g3, g4, kk1, -, -, kk4⟩ := HR3.out.slots
  obtain ⟨g, rfl⟩ : ∃ g, af = some ⟨g, 0, none⟩ := by
    rcases g2.2 with ⟨e1, e2⟩ | ⟨g, cap, cur, e1, _⟩
    · omega
    · simp only [Value.slice.injEq] at e1; exact ⟨g, e1.1⟩
  have hgne := own_bx g1 g2 (by decide)
  have hgw := own_bx HW3.out g2 (by decide)
  have hglt := (g2.lt g rfl)
  have hnr : ¬ g = rb := fun e1 => hgne (by rw [e1]; rfl)
  have hnr' : ¬ rb = g := fun e1 => hnr e1.symm
  have HX3 := hide g1
  have H23 := hide g2
  have H33 := hide g3
  have H43 := hide g4
  have d32 := own_apart g3 g2 (by decide)
  have d42 := own_apart g4 g2 (by decide)
  have HD3 := hide d32
  have HD4 := hide d42
  have hfr : w3.frozen? ⟨g, (m.fs.length - 1) * 4 + 3, none⟩ = false ∧ ∃ y, w3.cell? ⟨g, (m.fs.length - 1) * 4 + 3, none⟩ = some y := by
    rcases g2.2 with ⟨e1, e2⟩ | ⟨g', cap, cur, e1, _, hh, h2, h3, h4, h5⟩
    · omega
    · simp only [Value.slice.injEq, Option.some.injEq, Addr.mk.injEq, and_true] at e1
      obtain ⟨rfl, -, rfl⟩ := e1
      refine ⟨unfrozen_of_blk hh _, ?_⟩
      rw [cell_of_blk hh, Array.getElem?_eq_getElem (by rw [h4]; omega)]
      exact ⟨_, rfl⟩
  obtain ⟨hfz, y0, hy0⟩ := hfr
  obtain ⟨n, hnn⟩ : ∃ n, n = m.fs.length := ⟨_, rfl⟩
  obtain ⟨q, hq⟩ : ∃ q, q = m.fs.length - 1 := ⟨_, rfl⟩
  have HN := hide hnn
  have HQ := hide hq
  have hn5 := HG.out.nf
  rw [← hq] at hfz hy0
  have c5 : w3.cell? ⟨rb, 5, none⟩ = some (.slice (some ⟨g, 0, none⟩) n cf) := by rw [hnn]; exact g1.c 5
  have c4 : w3.cell? ⟨rb, 4, none⟩ = some (.int .i64 m.val) := g1.c 4
  have hin : (n : Int) - 1 = (q : Int) := by omega
  have e1 : IntKind.i64.wrap ((n : Int) - 1) = (q : Int) := (IntWalk.i64_in _ ⟨by omega, by omega⟩).trans hin
  have e2 : IntKind.i64.wrap (q : Int) = (q : Int) := IntWalk.i64_in _ ⟨by omega, by omega⟩
  have b1 : (q : Int) < (n : Int) := by omega
  have b0 : (0 : Int) ≤ (q : Int) := by omega
  clear g1 g2 g3 g4 hnn hq hgo hgne d32 d42 hn5
  go_wp2_with fail
  refine (HHf.out _).mono ?_
  rintro r w4 ⟨rfl, hb4⟩
  have c5 := (hb4.cell (p := ⟨rb, 5, none⟩) HX3.out.lt).trans c5
  have c4 := (hb4.cell (p := ⟨rb, 4, none⟩) HX3.out.lt).trans c4
  have hy0 := (hb4.cell (p := ⟨g, q * 4 + 3, none⟩) hglt.2).trans hy0
  have hfz := (hb4.frozen (p := ⟨g, q * 4 + 3, none⟩) hglt.2).trans hfz
  have HX4 := hide (HX3.out.below hb4 HX3.out.lt)
  have HW4 := hide (HW3.out.below hb4 hwl3)
  have H24 := hide (own_keep H23.out (fun k _ hk => hb4.block k hk))
  have H34 := hide (own_keep H33.out (fun k _ hk => hb4.block k hk))
  have H44 := hide (own_keep H43.out (fun k _ hk => hb4.block k hk))
  have hB4 : Below w.heap.size w w4 := hB3.trans (hb4.mono hB3.size)
  have HT4 := hide (HT3.out.below (hb4.mono hz3))
  clear hb4 hcw HX3 H23 H33 H43 HR3 HT3 HW3
  go_upto_region 8 with fail
  go_region_held3 (fun w' => w'.cell? ⟨rb, 5, none⟩ = some (.slice (some ⟨g, 0, none⟩) n cf) ∧ w'.cell? ⟨rb, 4, none⟩ = some (.int .i64 m.val)) (go_keep)
    (first | fail)
  have hX5 := ((HX4.out.setne g (q * 4 + 3) (.int .i64 m.val) hnr').drew)
  have hR5 : RB (w4.setCell ⟨g, q * 4 + 3, none⟩ (.int .i64 m.val)).drew rb lo (.slice ad l.length c) { m with fs := m.fs.dropLast ++ [{ f with val := m.val }] } := by
    have eq1 := HQ.out
    have hlen : (m.fs.dropLast ++ [{ f with val := m.val }]).length = m.fs.length := by simp; omega
    refine ⟨_, _, _, hX5, ?_, ?_, ?_, hrb⟩
    · simp only [hlen]
      have := own_last H24.out hlast.out m.val hfn
      rw [← eq1] at this
      exact this
    · exact own_same H34.out (fun k hk _ hl => Below.heap_setCell _ _ _ _ (fun e' => HD3.out k hk (by rw [show k = g from e']; rfl)))
    · exact own_same H44.out (fun k hk _ hl => Below.heap_setCell _ _ _ _ (fun e' => HD4.out k hk (by rw [show k = g from e']; rfl)))
  have hW5 : Bx (w4.setCell ⟨g, q * 4 + 3, none⟩ (.int .i64 m.val)).drew w1.heap.size _ _ := (HW4.out.setne g (q * 4 + 3) (.int .i64 m.val) (fun e' => hgw (by rw [e']; rfl))).drew
  have hB5 : Below lo w (w4.setCell ⟨g, q * 4 + 3, none⟩ (.int .i64 m.val)).drew := belowDrew (bsc (hB4.mono hle) g _ _ hglt.1)
  have HT5 := hide (HT.out.below hB5)
  obtain ⟨w5, hw5⟩ : ∃ w5, w5 = (w4.setCell ⟨g, q * 4 + 3, none⟩ (.int .i64 m.val)).drew := ⟨_, rfl⟩
  rw [← hw5] at hR5 hW5 hB5 HT5 ⊢
  have HR5 := hide hR5
  have hcw := hW5.c
  clear hw5 hX5 hR5 hW5 c5 c4 hy0 hfz
  go_wp2_with fail
  refine (HPt.out _ HT5.out.now).mono ?_
  rintro r w6 ⟨rfl, hb6⟩
  have HR6 := hide (HR5.out.below hb6)
  have hB6 : Below lo w w6 := hB5.trans (hb6.mono (Nat.le_trans hle hB5.size))
  clear hcw hb6
  go_wp2_with fail
  refine (next_any rb lo _ _ _ _ _ _ HR6.out).mono ?_
  rintro r w7 ⟨rfl, hR7, hO7⟩
  have HGo2 := HGo.out
  clear HGo
  go_wp2_with fail
  go_ret
  refine ⟨?_, hB6.trans (hO7.below (Nat.le_trans hle hB6.size) hrb)⟩
  rw [HGo2]
  exact ⟨rfl, hR7⟩
end Go.Proofs.YtnmkbpflbfhpnaaGreat.W

/-
  A contract of goOn of a running machine at TmAdd. Conditions: good machines of closed terms.
-/
namespace Go.Proofs.YtnmkbpflbfhpnaaGreat.W
open Go.ChangeShapes Go.WideShapes Go.ChangeAt Go.RowKit
set_option linter.unusedVariables false

set_option maxRecDepth 20000 in
set_option maxHeartbeats 4000000 in
theorem goOn_add (rb lo : Nat) (ad : Option Addr) (c : Nat) (l : List Cc) (a : F) (m : Mc) (f : Fm) (w : World) (hCl : Cl l a) (h : RB w rb lo (.slice ad l.length c) m) (hT : TR w lo ad c l) (hG : GM a l m) (hd : Hid (m.done = true)) (hf : m.fs.getLast? = some f) (k4 : Hid (f.k = 5)) (hv0 : Hid (¬ f.val = -1)) :
    Calls Tryz.prog 45 #[.pointer (some ⟨rb, 0, none⟩)] w fun r w' => RunOut r w' rb lo (.slice ad l.length c) m (goM a l m f) ∧ Below lo w w' := by
  have hrl := h.lt.1
  have hrb := h.lt.2
  have hle := hT.le
  have hmem : f ∈ m.fs := List.mem_of_getLast? hf
  have hfn : 0 < m.fs.length := List.length_pos_of_mem hmem
  obtain ⟨d1, d2, d3, d4⟩ := nOk_done hG.now hd.out
  obtain ⟨p1, p2, p3, p4⟩ := fOk_parts (hG.fs f hmem)
  obtain ⟨q1, q2, q3⟩ := pOk_iff.1 p1
  obtain ⟨x, e, k, x1, x2, x3, x4, x5, x6, x7⟩ := hCl.part q1
  obtain ⟨p, hp⟩ := Int.eq_ofNat_of_zero_le q1.1
  have hp' : f.pl.toNat = p := by rw [hp]; rfl
  rw [hp'] at x1 x2 x3
  have hpl : p < l.length := by have := q1.2; omega
  have hlx : l[p] = x := by rw [List.getElem?_eq_getElem hpl] at x2; simpa using x2
  have HXk : Hid (x.k = f.k) := hide (by rw [← x4, p2])
  have hl6 := hCl.le
  have HLF := hide (lastFrame_any rb lo _ m w h hfn hG.nf f hf ⟨_, _, _, rfl⟩)
  rw [hp] at HLF
  obtain ⟨i, hi⟩ := Int.eq_ofNat_of_zero_le d3
  have hil : i < m.vs.length := by omega
  have HVi := hide hi
  have HR := hide h
  have HT := hide hT
  have HG := hide hG
  have HCl := hide hCl
  have HX1 := hide x1
  have HP := hide hp
  have HP4 := hide p4
  have HQ2 := hide q2
  have HD := hide (And.intro d1 d2)
  clear h hT hG hd hf hmem p1 p2 q1 q3 x1 x2 x3 x4 x5 x6 x7 hp hp' d1 d2 hi hCl p4 q2
  go_enter Tryz.func45, Tryz.ntmps45
  go_wp2_with fail
  refine HLF.out.mono ?_
  rintro r w1 ⟨rfl, hb1⟩
  have HR1 := hide (HR.out.below hb1)
  have HT1 := hide (HT.out.below (hb1.mono hle))
  have hz1 : lo ≤ w1.heap.size := Nat.le_trans hle hb1.size
  have hW2 := Bx.new w1 #[.slice ad l.length c, .int .i64 (p : Int), .int .i64 f.env, .int .i64 f.val] 145
  have hq2 : Below w1.heap.size w1 (w1.alloc (.cells #[.slice ad l.length c, .int .i64 (p : Int), .int .i64 f.env, .int .i64 f.val] 145)) := (Below.refl _ _).alloc (Nat.le_refl _) _
  go_upto_region 2 with fail
  obtain ⟨w2, hw2⟩ : ∃ w2, w2 = w1.alloc (.cells #[.slice ad l.length c, .int .i64 (p : Int), .int .i64 f.env, .int .i64 f.val] 145) := ⟨_, rfl⟩
  rw [← hw2] at hW2 hq2 ⊢
  clear hw2 HLF
  have HR2 := hide (HR1.out.below hq2)
  have HT2 := hide (HT1.out.below (hq2.mono hz1))
  have hB2 : Below w.heap.size w w2 := hb1.trans (hq2.mono hb1.size)
  have HW2 := hide hW2
  have hwl := hW2.lt
  have hcw := hW2.c
  clear hW2 HR1 HT1 hq2
  have hz2 : lo ≤ w2.heap.size := Nat.le_trans hle hB2.size
  go_wp2_with fail
  refine (taskCell_any ad c l p f.env _ HT2.out.now hpl (by omega)).mono ?_
  rw [hlx]
  rintro r w3 ⟨rfl, hb3⟩
  have HR3 := hide (HR2.out.below hb3)
  have HT3 := hide (HT2.out.below (hb3.mono hz2))
  have HW3 := hide (HW2.out.below hb3 hwl)
  have hB3 : Below w.heap.size w w3 := hB2.trans (hb3.mono hB2.size)
  have hz3 : lo ≤ w3.heap.size := Nat.le_trans hle hB3.size
  have hwl3 := HW3.out.lt
  clear hcw hb3 HR2 HT2 HW2
  have hcw := HW3.out.c
  have hrw : ¬ rb = w1.heap.size := by have := hb1.size; omega
  have hfd := fieldCell
  rw [HXk.out]
  have k4' := k4.out
  rw [k4']
  obtain ⟨-, v1, v2⟩ := HP4.out.resolve_left hv0.out
  obtain ⟨j, hj⟩ := Int.eq_ofNat_of_zero_le v1
  have hjl : j < m.vs.length := by omega
  obtain ⟨hjl', hve, hvo⟩ := vlAt_ok HG.out ⟨v1, v2⟩
  have hjt : f.val.toNat = j := by rw [hj]; rfl
  have e1 : vlAt m f.val = m.vs[j] := by rw [hve]; simp only [hjt]
  rw [e1] at hvo
  obtain ⟨hil', hvi, hvoi⟩ := vlAt_ok HG.out (i := m.val) (by rw [HVi.out]; omega)
  have hit : m.val.toNat = i := by rw [HVi.out]; rfl
  have ei : vlAt m m.val = m.vs[i] := by rw [hvi]; simp only [hit]
  rw [ei] at hvoi
  have nb : ∀ (q : Nat) (v : Vl), vOk a l m.bs q v = true → -1000000 ≤ v.num ∧ v.num ≤ 1000000 := fun q v hv => by
    cases hvf : v.fn with
    | true => have := (vOk_fn hv hvf).1; omega
    | false => have := vOk_num hv hvf; omega
  have HCa := hide (fun (w' : World) (hb : Below w3.heap.size w3 w') => add_any rb lo _ m m.vs[j] i w' (HR3.out.below hb) (Nat.le_trans hz3 hb.size) hfn hil HVi.out HG.out.nv (nb _ _ hvo) (nb _ _ hvoi) ⟨_, _, _, rfl⟩)
  obtain ⟨af, cf, av, cv, ab, cb, g1, g2, g3, g4, -⟩ := HR3.out.slots
  have c6 : w3.cell? ⟨rb, 6, none⟩ = some (.slice av m.vs.length cv) := g1.c 6
  have cw3 : w3.cell? ⟨w1.heap.size, 3, none⟩ = some (.int .i64 f.val) := HW3.out.c 3
  have cwx : w3.cell? ⟨w1.heap.size, 3, none⟩ = some (.int .i64 (j : Int)) := by rw [cw3, hj]
  obtain ⟨b, o, hav, hb, u0, u1, u2, u3⟩ := VlRow.tok (RRow.ofOwn g3 rfl) (Below.refl _ _) hjl
  subst hav
  have hgo : goM a l m f = (if m.vs[j].fn = true ∨ m.vs[i].fn = true ∨ inB (m.vs[j].num + m.vs[i].num) (-1000000) 1000000 = false then .inr 3 else newM { m with fs := m.fs.dropLast } ⟨false, m.vs[j].num + m.vs[i].num, 0, 0⟩) := by
    unfold goM; rw [if_neg (by omega), if_neg (by omega), if_neg hv0.out, if_neg (by omega), e1, ei]
  rw [← hgo] at HCa
  obtain ⟨y, hy⟩ : ∃ y, y = m.vs[j] := ⟨_, rfl⟩
  rw [← hy] at HCa u0 u1 u2 u3
  have hjn : (j : Int) < (m.vs.length : Int) := by omega
  have hj0 : (0 : Int) ≤ (j : Int) := by omega
  have hvne : (decide (f.val = -1)) = false := by simpa using hv0.out
  clear g1 g2 g3 g4 hy hgo e1 hvo hve hjt hjl' v1 v2 hil' hvi hvoi hit ei nb
  obtain ⟨y0, y1, y2, y3⟩ := y
  simp only at u0 u1 u2 u3
  have hcj := hcw
  simp only [hj] at hcj
  have hne1 : ¬ (j : Int) = -1 := by omega
  have HJ := hide hj
  clear cw3 hcw hvne hj HW3 hv0
  have HHf := hide (fun (w' : World) => hasFirst_any (.slice ad l.length c) (p : Int) f.env (j : Int) w' true (by simp) ⟨_, _, _, rfl⟩)
  go_wp2_with fail
  refine (HHf.out _).mono ?_
  rintro r w3' ⟨rfl, hb3'⟩
  have HCa := hide (fun (w' : World) (hb : Below w3'.heap.size w3' w') => HCa.out w' (hb3'.trans (hb.mono hb3'.size)))
  have c6 := (hb3'.cell (p := ⟨rb, 6, none⟩) (by show rb < _; have := hB3.size; omega)).trans c6
  have cwx := (hb3'.cell (p := ⟨w1.heap.size, 3, none⟩) hwl3).trans cwx
  have u0 := (hb3'.cell (p := ⟨b, o + j * 4, none⟩) hb).trans u0
  have u1 := (hb3'.cell (p := ⟨b, o + j * 4 + 1, none⟩) hb).trans u1
  have u2 := (hb3'.cell (p := ⟨b, o + j * 4 + 2, none⟩) hb).trans u2
  have u3 := (hb3'.cell (p := ⟨b, o + j * 4 + 3, none⟩) hb).trans u3
  have hB3 := hB3.trans (hb3'.mono hB3.size)
  clear hb3' hcj
  go_upto_region 13 with fail
  go_region_with (first | (go_at_call 85; (with_reducible refine (HCa.out _ (belowDrew (Below.refl _ _))).mono ?_); rintro r w4 ⟨ho4, hb4⟩; have hB4 : Below lo w w4 := (hB3.mono hle).trans ⟨hb4.os, hb4.tape, hb4.output, hb4.size, hb4.block⟩; obtain ⟨rfl, hR4⟩ := ho4.get; have HR4 := hide hR4; clear ho4 hb4 hR4))
  all_goals
    clear u0 u1 u2 u3 c6 cwx
    go_wp2_with fail
    go_ret
    exact ⟨RunOut.put ⟨rfl, HR4.out⟩, hB4⟩
end Go.Proofs.YtnmkbpflbfhpnaaGreat.W

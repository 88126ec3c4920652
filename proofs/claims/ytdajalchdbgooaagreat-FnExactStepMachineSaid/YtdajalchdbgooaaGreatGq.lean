/-
  Some texts of this proof in one: MaR7, MaR8.
-/
import Derived.Test.YtdajalchdbgooaaGreatMaR6
import Derived.Test.YtdajalchdbgooaaGreatGr
import Derived.Deep.RegionHeld3
import Derived.Deep.RegionLaw
import Derived.Deep.AppendLies
import Derived.Deep.CutRange
/-
  Contracts of choose and add of a running machine. Conditions: good machines of closed terms.
-/
namespace Go.Proofs.YtdajalchdbgooaaGreat.W
open Go.ChangeShapes Go.WideShapes Go.ChangeAt Go.RowKit
set_option linter.unusedVariables false

/-- The term's row stays, whatever becomes of blocks from lo on. -/
structure TR (w : World) (lo : Nat) (ad : Option Addr) (c : Nat) (l : List Cc) : Prop where
  row : ∀ w', Below lo w w' → CRow w' ad l
  cap : l.length ≤ c
  max : c ≤ maxLen
  le : lo ≤ w.heap.size
theorem TR.below {w w' : World} {lo : Nat} {ad : Option Addr} {c : Nat} {l : List Cc} (h : TR w lo ad c l) (hb : Below lo w w') : TR w' lo ad c l :=
  ⟨fun w2 h2 => h.row w2 (hb.trans h2), h.cap, h.max, Nat.le_trans h.le hb.size⟩
theorem TR.now {w : World} {lo : Nat} {ad : Option Addr} {c : Nat} {l : List Cc} (h : TR w lo ad c l) : CRow w ad l := h.row w (Below.refl _ _)

set_option maxRecDepth 20000 in
set_option maxHeartbeats 2000000 in
theorem choose_any (rb lo : Nat) (ad : Option Addr) (c : Nat) (l : List Cc) (a : F) (m : Mc) (p : Nat) (e fv : Int) (x : Cc) (d : Nat) (k : F) (i : Nat) (w : World) (hCl : Cl l a) (h : RB w rb lo (.slice ad l.length c) m) (hT : TR w lo ad c l)
    (hn : (ndT a)[p]? = some (x, d, k)) (hx : x.k = 6) (hf : 0 < m.fs.length) (hi : i < m.vs.length) (hv : m.val = (i : Int)) (hnv : m.vs.length ≤ 500) :
    Calls Tryz.prog 88 #[.pointer (some ⟨rb, 0, none⟩), .agg #[.slice ad l.length c, .int .i64 (p : Int), .int .i64 e, .int .i64 fv]] w fun r w' =>
      RunOut r w' rb lo (.slice ad l.length c) m (if m.vs[i].fn = true then .inr 3 else .inl (nextM { m with fs := m.fs.dropLast } (kp a p (if m.vs[i].num = 0 then 1 else 2)) e)) ∧ Below lo w w' := by
  have hrl := h.lt.1
  have hrb := h.lt.2
  have hB0 : Below w.heap.size w (w.alloc (.cells #[.slice ad l.length c, .int .i64 (p : Int), .int .i64 e, .int .i64 fv] 143)) := (Below.refl _ _).alloc (Nat.le_refl _) _
  have hV := Bx.new w #[.slice ad l.length c, .int .i64 (p : Int), .int .i64 e, .int .i64 fv] 143
  have hR0 := h.below hB0
  have hT0 := hT.below (hB0.mono hT.le)
  obtain ⟨af, cf, av, cv, ab, cb, h1, h2, h3, h4, -⟩ := hR0.slots
  have har : ar x.k = 3 := by rw [hx]; rfl
  have HP1 := hide (fun w' (hb : CRow w' ad l) => partNo_any ad c l a p e 1 x d k w' hCl hn (by omega) hT.cap hT.max hb)
  have HP2 := hide (fun w' (hb : CRow w' ad l) => partNo_any ad c l a p e 2 x d k w' hCl hn (by omega) hT.cap hT.max hb)
  rw [show ((1 : Nat) : Int) = 1 from rfl] at HP1
  rw [show ((2 : Nat) : Int) = 2 from rfl] at HP2
  obtain ⟨w0, hw0⟩ : ∃ w0, w0 = w.alloc (.cells #[.slice ad l.length c, .int .i64 (p : Int), .int .i64 e, .int .i64 fv] 143) := ⟨_, rfl⟩
  rw [← hw0] at hB0 hV hR0 hT0 h1 h3
  have HR0 := hide hR0
  have HT0 := hide hT0
  have HV := hide hV
  have HCm := hide (cameTo_any m.done m.pl m.env i (.slice af m.fs.length cf) (.slice ab m.bs.length cb) av cv m.vs w0 (RRow.ofOwn h3 rfl) hi (by omega))
  have hc := h1.c
  rw [hv] at hc
  have hvl := hV.lt
  have hle := hT.le
  obtain ⟨y, hy⟩ : ∃ y, y = m.vs[i] := ⟨_, rfl⟩
  rw [← hy] at HCm ⊢
  clear h h1 h2 h3 h4 hR0 hT0 hV hT hn hy hv hCl har hx
  obtain ⟨y0, y1, y2, y3⟩ := y
  go_enter Tryz.func88, Tryz.ntmps88
  go_upto_region 1 with fail
  rw [← hw0]
  clear hw0
  go_wp2_with fail
  refine HCm.out.mono ?_
  rintro r w1 ⟨rfl, hb1⟩
  have HV1 := hide (HV.out.below hb1 hvl)
  have HR1 := hide (HR0.out.below hb1)
  have HT1 := hide (HT0.out.below (hb1.mono (Nat.le_trans hle hB0.size)))
  have hB1 : Below lo w w1 := (hB0.mono hle).trans (hb1.mono (Nat.le_trans hle hB0.size))
  have hs1 := hb1.size
  clear hb1 hc HV HR0 HT0 HCm
  cases y0 with
  | true =>
    go_wp2_with fail
    go_ret
    exact ⟨⟨rfl, HR1.out.below ((Below.refl _ _).alloc (Nat.le_refl _) _)⟩, hB1.alloc (Nat.le_trans hle (by have := hB0.size; omega)) _⟩
  | false =>
    have hB1' : Below w1.heap.size w1 (w1.alloc (.cells #[.bool false, .int .i64 y1, .int .i64 y2, .int .i64 y3] 88)) := (Below.refl _ _).alloc (Nat.le_refl _) _
    have hlz : lo ≤ w1.heap.size := Nat.le_trans hle (by have := hB0.size; omega)
    go_wp2_with fail
    refine (dropFrame_any rb lo _ m _ (HR1.out.below hB1') hf).mono ?_
    rintro r w2 ⟨rfl, hR2, hO2⟩
    have hA2 : Bx w2 w1.heap.size #[.bool false, .int .i64 y1, .int .i64 y2, .int .i64 y3] 88 := (hO2.block _ (by simp) (by omega)).trans (Bx.new w1 _ _)
    have hV2 : Bx w2 w.heap.size #[.slice ad l.length c, .int .i64 (p : Int), .int .i64 e, .int .i64 fv] 143 := (hO2.block _ (by simp; omega) (by omega)).trans (HV1.out.alloc _)
    have hB2 : Below lo w w2 := (hB1.alloc hlz _).trans (hO2.below (by simp; omega) hrb)
    have HR2 := hide hR2
    have HT2 := hide ((HT1.out.below (hB1'.mono hlz)).below (hO2.below (by simp; omega) hrb))
    have hca := hA2.c
    have hcv := hV2.c
    have hz2 : lo ≤ w2.heap.size := Nat.le_trans hle hB2.size
    clear hR2 hO2 hA2 hV2 HR1 HT1 HV1 hB1'
    by_cases hy1 : y1 = 0
    · subst hy1
      go_wp2_with fail
      refine (HP1.out _ HT2.out.now).mono ?_
      rintro r w3 ⟨rfl, hb3⟩
      have HR3 := hide (HR2.out.below hb3)
      have hB3 : Below lo w w3 := hB2.trans (hb3.mono hz2)
      clear hb3 hca hcv
      go_wp2_with fail
      refine (next_any rb lo _ _ _ _ _ _ HR3.out).mono ?_
      rintro r w4 ⟨rfl, hR4, hO4⟩
      go_wp2_with fail
      go_ret
      exact ⟨⟨rfl, hR4⟩, hB3.trans (hO4.below (Nat.le_trans hle hB3.size) hrb)⟩
    · go_wp2_with fail
      refine (HP2.out _ HT2.out.now).mono ?_
      rintro r w3 ⟨rfl, hb3⟩
      have HR3 := hide (HR2.out.below hb3)
      have hB3 : Below lo w w3 := hB2.trans (hb3.mono hz2)
      clear hb3 hca hcv
      go_wp2_with fail
      refine (next_any rb lo _ _ _ _ _ _ HR3.out).mono ?_
      rintro r w4 ⟨rfl, hR4, hO4⟩
      go_wp2_with fail
      go_ret
      exact ⟨⟨rfl, hR4⟩, hB3.trans (hO4.below (Nat.le_trans hle hB3.size) hrb)⟩
end Go.Proofs.YtdajalchdbgooaaGreat.W

/-
  Contracts of add and call of a running machine. Conditions: good machines of closed terms.
-/
namespace Go.Proofs.YtdajalchdbgooaaGreat.W
open Go.ChangeShapes Go.WideShapes Go.ChangeAt Go.RowKit
set_option linter.unusedVariables false

def cdOf : Mc ⊕ Int → Int
  | .inl _ => 0
  | .inr c => c
def mcOf (m : Mc) : Mc ⊕ Int → Mc
  | .inl m' => m'
  | .inr _ => m
theorem RunOut.get {e : Ending} {w' : World} {rb lo : Nat} {tv : Value} {m : Mc} {s : Mc ⊕ Int} (h : RunOut e w' rb lo tv m s) : e = .returned (.int .i64 (cdOf s)) ∧ RB w' rb lo tv (mcOf m s) := by
  cases s with
  | inl m' => exact h
  | inr c => exact h
theorem RunOut.put {e : Ending} {w' : World} {rb lo : Nat} {tv : Value} {m : Mc} {s : Mc ⊕ Int} (h : e = .returned (.int .i64 (cdOf s)) ∧ RB w' rb lo tv (mcOf m s)) : RunOut e w' rb lo tv m s := by
  cases s with
  | inl m' => exact h
  | inr c => exact h

set_option maxRecDepth 20000 in
set_option maxHeartbeats 2000000 in
theorem add_any (rb lo : Nat) (tv : Value) (m : Mc) (u : Vl) (i : Nat) (w : World) (h : RB w rb lo tv m) (hle : lo ≤ w.heap.size)
    (hf : 0 < m.fs.length) (hi : i < m.vs.length) (hv : m.val = (i : Int)) (hnv : m.vs.length ≤ 500) (hu : -1000000 ≤ u.num ∧ u.num ≤ 1000000) (hw : -1000000 ≤ m.vs[i].num ∧ m.vs[i].num ≤ 1000000) (htv : ∃ tn ta tc, tv = .slice ta tn tc) :
    Calls Tryz.prog 92 #[.pointer (some ⟨rb, 0, none⟩), u.v] w fun r w' =>
      RunOut r w' rb lo tv m (if u.fn = true ∨ m.vs[i].fn = true ∨ inB (u.num + m.vs[i].num) (-1000000) 1000000 = false then .inr 3 else newM { m with fs := m.fs.dropLast } ⟨false, u.num + m.vs[i].num, 0, 0⟩) ∧ Below lo w w' := by
  have hrl := h.lt.1
  have hrb := h.lt.2
  obtain ⟨tn, ta, tc, rfl⟩ := htv
  have hB0 : Below w.heap.size w (w.alloc (.cells #[.bool u.fn, .int .i64 u.num, .int .i64 u.pl, .int .i64 u.env] 88)) := (Below.refl _ _).alloc (Nat.le_refl _) _
  have hV := Bx.new w #[.bool u.fn, .int .i64 u.num, .int .i64 u.pl, .int .i64 u.env] 88
  have hR0 := h.below hB0
  obtain ⟨af, cf, av, cv, ab, cb, h1, h2, h3, h4, -⟩ := hR0.slots
  obtain ⟨w0, hw0⟩ : ∃ w0, w0 = w.alloc (.cells #[.bool u.fn, .int .i64 u.num, .int .i64 u.pl, .int .i64 u.env] 88) := ⟨_, rfl⟩
  rw [← hw0] at hB0 hV hR0 h1 h3
  have HR0 := hide hR0
  have HV := hide hV
  have HCm := hide (cameTo_any m.done m.pl m.env i (.slice af m.fs.length cf) (.slice ab m.bs.length cb) av cv m.vs w0 (RRow.ofOwn h3 rfl) hi (by omega))
  have hc := h1.c
  rw [hv] at hc
  have hvl := hV.lt
  obtain ⟨y, hy⟩ : ∃ y, y = m.vs[i] := ⟨_, rfl⟩
  rw [← hy] at HCm hw ⊢
  clear h h1 h2 h3 h4 hR0 hV hy hv
  obtain ⟨y0, y1, y2, y3⟩ := y
  obtain ⟨u0, u1, u2, u3⟩ := u
  simp only at hu hw HV hw0 ⊢
  obtain ⟨hu1, hu2⟩ := hu
  obtain ⟨hw1, hw2⟩ := hw
  have HG := hide (goodCell_any ⟨2, u1 + y1⟩)
  have HGe : Hid (goodC ⟨2, u1 + y1⟩ = inB (u1 + y1) (-1000000) 1000000) := hide (by unfold goodC; simp)
  obtain ⟨G, hG⟩ : ∃ G, G = inB (u1 + y1) (-1000000) 1000000 := ⟨_, rfl⟩
  rw [HGe.out, ← hG] at HG
  rw [← hG]
  clear HGe hG
  go_enter Tryz.func92, Tryz.ntmps92
  go_upto_region 1 with fail
  rw [← hw0]
  clear hw0
  go_wp2_with fail
  refine HCm.out.mono ?_
  rintro r w1 ⟨rfl, hb1⟩
  have HV1 := hide (HV.out.below hb1 hvl)
  have HR1 := hide (HR0.out.below hb1)
  have hB1 : Below lo w w1 := (hB0.mono hle).trans (hb1.mono (Nat.le_trans hle hB0.size))
  have hs1 : w.heap.size < w1.heap.size := HV1.out.lt
  clear hb1 hc HV HR0 HCm
  have hlz : lo ≤ w1.heap.size := Nat.le_trans hle hB1.size
  have hA := Bx.new w1 #[.bool y0, .int .i64 y1, .int .i64 y2, .int .i64 y3] 88
  have hq1 : Below w1.heap.size w1 (w1.alloc (.cells #[.bool y0, .int .i64 y1, .int .i64 y2, .int .i64 y3] 88)) := (Below.refl _ _).alloc (Nat.le_refl _) _
  have hV2 := HV1.out.alloc (.cells #[.bool y0, .int .i64 y1, .int .i64 y2, .int .i64 y3] 88)
  have hR2 := HR1.out.below hq1
  have hB2 := hB1.alloc hlz (.cells #[.bool y0, .int .i64 y1, .int .i64 y2, .int .i64 y3] 88)
  go_upto_region 2 with fail
  obtain ⟨w2, hw2'⟩ : ∃ w2, w2 = w1.alloc (.cells #[.bool y0, .int .i64 y1, .int .i64 y2, .int .i64 y3] 88) := ⟨_, rfl⟩
  have hs2 : w2.heap.size = w1.heap.size + 1 := by rw [hw2']; simp
  rw [← hw2'] at hA hV2 hR2 hB2 ⊢
  clear hw2' HV1 HR1 hq1 hB1
  have HR2 := hide hR2
  have ca := hA.c
  have cv2 := hV2.c
  have hs2' : w1.heap.size < w2.heap.size := by omega
  have hs2'' : w.heap.size < w2.heap.size := by omega
  clear hs2
  have hB3 := hB2.alloc (Nat.le_trans hle hB2.size) (.cells #[.int .i64 2, .int .i64 (u1 + y1)] 56)
  have hS3 := Bx.new w2 #[.int .i64 2, .int .i64 (u1 + y1)] 56
  have ca3 := (hA.alloc (.cells #[.int .i64 2, .int .i64 (u1 + y1)] 56)).c
  have cv3 := (hV2.alloc (.cells #[.int .i64 2, .int .i64 (u1 + y1)] 56)).c
  have HR3 := hide (HR2.out.below ((Below.refl _ _).alloc (Nat.le_refl _) (.cells #[.int .i64 2, .int .i64 (u1 + y1)] 56)))
  clear hA hV2 hR2 HR2
  cases u0 with
  | true =>
    go_wp2_with fail
    go_ret
    exact ⟨⟨rfl, HR3.out⟩, hB3⟩
  | false =>
    cases y0 with
    | true =>
      go_wp2_with fail
      go_ret
      exact ⟨⟨rfl, HR3.out⟩, hB3⟩
    | false =>
      have cs3 := hS3.c
      obtain ⟨w3, hw3⟩ : ∃ w3, w3 = w2.alloc (.cells #[.int .i64 2, .int .i64 (u1 + y1)] 56) := ⟨_, rfl⟩
      go_upto_region 3 with fail
      rw [← hw3] at cs3 ca3 cv3 HR3 hB3 hS3 ⊢
      have HS3 := hide hS3
      have hsl := hS3.lt
      clear hw3 ca cv2 hS3
      go_wp2_with fail
      refine (HG.out _).mono ?_
      rintro r w4 ⟨rfl, hb4⟩
      have hz3 : lo ≤ w3.heap.size := Nat.le_trans hle hB3.size
      have HR4 := hide (HR3.out.below hb4)
      have hB4 : Below lo w w4 := hB3.trans (hb4.mono hz3)
      have hS4 := HS3.out.below hb4 hsl
      have cs4 := hS4.c
      have hz4 : lo ≤ w4.heap.size := Nat.le_trans hle hB4.size
      clear hb4 hS4 HS3 cs3 ca3 cv3 HR3 hB3 HG
      cases G with
      | false =>
        go_wp2_with fail
        go_ret
        exact ⟨⟨rfl, HR4.out⟩, hB4⟩
      | true =>
        go_wp2_with fail
        refine (comeNew_any rb lo _ m ⟨false, u1 + y1, 0, 0⟩ _ HR4.out hnv hz4).mono ?_
        rintro r w5 ⟨ho5, hb5⟩
        have hB5 : Below lo w w5 := hB4.trans hb5
        clear cs4
        unfold newM at ho5
        by_cases hfl : 500 ≤ m.vs.length
        · rw [if_pos hfl] at ho5
          obtain ⟨rfl, hR5⟩ := ho5
          go_wp2_with fail
          go_ret
          refine ⟨?_, hB5⟩
          first
            | exact ⟨rfl, hR5⟩
            | (simp [newM, hfl]; exact ⟨rfl, hR5⟩)
        · rw [if_neg hfl] at ho5
          obtain ⟨rfl, hR5⟩ := ho5
          have HR5 := hide hR5
          clear hR5
          go_wp2_with fail
          refine (dropFrame_any rb lo _ _ _ HR5.out hf).mono ?_
          rintro r w6 ⟨rfl, hR6, hO6⟩
          go_wp2_with fail
          go_ret
          refine ⟨?_, hB5.trans (hO6.below (Nat.le_trans hle hB5.size) hrb)⟩
          first
            | exact ⟨rfl, hR6⟩
            | (simp [newM, hfl]; exact ⟨rfl, hR6⟩)

set_option maxRecDepth 20000 in
set_option maxHeartbeats 2000000 in
theorem call_any (rb lo : Nat) (ad : Option Addr) (c : Nat) (l : List Cc) (a : F) (m : Mc) (u : Vl) (p : Nat) (x : Cc) (d : Nat) (k : F) (w : World) (hCl : Cl l a) (h : RB w rb lo (.slice ad l.length c) m) (hT : TR w lo ad c l)
    (hu : u.fn = true → u.pl = (p : Int) ∧ (ndT a)[p]? = some (x, d, k) ∧ 0 < ar x.k) (hf : 0 < m.fs.length) (hnb : m.bs.length ≤ 500) :
    Calls Tryz.prog 91 #[.pointer (some ⟨rb, 0, none⟩), u.v] w fun r w' =>
      RunOut r w' rb lo (.slice ad l.length c) m (if u.fn = true then bindM m u.env (kp a u.pl 0) else .inr 3) ∧ Below lo w w' := by
  have hrl := h.lt.1
  have hrb := h.lt.2
  have hle := hT.le
  have hB0 : Below w.heap.size w (w.alloc (.cells #[.bool u.fn, .int .i64 u.num, .int .i64 u.pl, .int .i64 u.env] 88)) := (Below.refl _ _).alloc (Nat.le_refl _) _
  have hV := Bx.new w #[.bool u.fn, .int .i64 u.num, .int .i64 u.pl, .int .i64 u.env] 88
  have hR0 := h.below hB0
  have hT0 := hT.below (hB0.mono hT.le)
  obtain ⟨af, cf, av, cv, ab, cb, h1, -⟩ := hR0.slots
  obtain ⟨w0, hw0⟩ : ∃ w0, w0 = w.alloc (.cells #[.bool u.fn, .int .i64 u.num, .int .i64 u.pl, .int .i64 u.env] 88) := ⟨_, rfl⟩
  rw [← hw0] at hB0 hV hR0 h1 hT0
  have HR0 := hide hR0
  have HT0 := hide hT0
  have HV := hide hV
  have hvl := hV.lt
  have hz0 : lo ≤ w0.heap.size := Nat.le_trans hle hB0.size
  obtain ⟨u0, u1, u2, u3⟩ := u
  simp only at hu hV HV hw0 ⊢
  cases u0 with
  | false =>
    have hcv := hV.c
    clear h h1 hR0 hT0 hV hT hCl hu
    go_enter Tryz.func91, Tryz.ntmps91
    go_upto_region 1 with fail
    rw [← hw0]
    clear hw0
    go_wp2_with fail
    go_ret
    exact ⟨⟨rfl, HR0.out⟩, hB0.mono hle⟩
  | true =>
    obtain ⟨rfl, hn, har⟩ := hu rfl
    have HP := hide (fun w' (hb : CRow w' ad l) => partNo_any ad c l a p u3 0 x d k w' hCl hn har hT.cap hT.max hb)
    rw [show ((0 : Nat) : Int) = 0 from rfl] at HP
    have v0 : w0.cell? ⟨w.heap.size, 0, none⟩ = some (.bool true) := hV.c 0
    have v2 : w0.cell? ⟨w.heap.size, 2, none⟩ = some (.int .i64 (p : Int)) := hV.c 2
    have v3 : w0.cell? ⟨w.heap.size, 3, none⟩ = some (.int .i64 u3) := hV.c 3
    have t0 : w0.cell? ⟨rb, 0, none⟩ = some (.slice ad l.length c) := h1.c 0
    clear h h1 hR0 hT0 hV hT hCl hu hn har
    go_enter Tryz.func91, Tryz.ntmps91
    go_upto_region 1 with fail
    rw [← hw0]
    clear hw0
    go_upto_region 3 with fail
    go_region_held3 (fun w' => w'.cell? ⟨rb, 0, none⟩ = some (.slice ad l.length c) ∧ w'.cell? ⟨w.heap.size, 2, none⟩ = some (.int .i64 (p : Int)) ∧ w'.cell? ⟨w.heap.size, 3, none⟩ = some (.int .i64 u3)) (go_keep)
      (first | fail)
    have hq : Below w0.heap.size w0 (w0.alloc (.cells #[.slice ad l.length c, .int .i64 (p : Int), .int .i64 u3] 136)).drew := belowDrew ((Below.refl _ _).alloc (Nat.le_refl _) _)
    have hP1 := (Bx.new w0 #[.slice ad l.length c, .int .i64 (p : Int), .int .i64 u3] 136).drew
    obtain ⟨w1, hw1⟩ : ∃ w1, w1 = (w0.alloc (.cells #[.slice ad l.length c, .int .i64 (p : Int), .int .i64 u3] 136)).drew := ⟨_, rfl⟩
    rw [← hw1] at hq hP1 ⊢
    have HR1 := hide (HR0.out.below hq)
    have HT1 := hide (HT0.out.below (hq.mono hz0))
    have hB1 : Below lo w w1 := (hB0.mono hle).trans (hq.mono hz0)
    have hcp := hP1.c
    clear hw1 v0 v2 v3 t0 hP1
    go_wp2_with fail
    refine (HP.out _ HT1.out.now).mono ?_
    rintro r w2 ⟨rfl, hb2⟩
    have HR2 := hide (HR1.out.below hb2)
    have hz1 : lo ≤ w1.heap.size := Nat.le_trans hle hB1.size
    have hB2 : Below lo w w2 := hB1.trans (hb2.mono hz1)
    clear hcp hb2
    go_wp2_with fail
    refine (bind_any rb lo _ _ m _ _ _ HR2.out hnb hf (Nat.le_trans hle hB2.size) ⟨_, _, _, rfl⟩).mono ?_
    rintro r w3 ⟨ho3, hb3⟩
    have hB3 := hB2.trans hb3
    cases hbm : bindM m u3 (kp a p 0) with
    | inl m' =>
      rw [hbm] at ho3
      obtain ⟨rfl, hR3⟩ := ho3
      go_wp2_with fail
      go_ret
      refine ⟨?_, hB3⟩
      first
        | exact ⟨rfl, hR3⟩
        | (simp only [if_true, hbm]; exact ⟨rfl, hR3⟩)
    | inr cd =>
      rw [hbm] at ho3
      obtain ⟨rfl, hR3⟩ := ho3
      go_wp2_with fail
      go_ret
      refine ⟨?_, hB3⟩
      first
        | exact ⟨rfl, hR3⟩
        | (simp only [if_true, hbm]; exact ⟨rfl, hR3⟩)
end Go.Proofs.YtdajalchdbgooaaGreat.W

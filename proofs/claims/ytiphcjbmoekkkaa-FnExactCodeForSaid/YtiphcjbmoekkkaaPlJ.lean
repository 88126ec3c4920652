/-
  The specification's l13Code and CodeBy: contracts. Conditions: at most 1048576 cells.
-/
import Derived.Test.YtiphcjbmoekkkaaPlH
namespace Go.Proofs.Ytiphcjbmoekkkaa.L
open Go.Proofs.Ytiphcjbmoekkkaa.W
open Go.ChangeShapes Go.WideShapes Go.ChangeAt Go.RowKit
set_option linter.unusedVariables false

/-- The truths for a tree's cells. -/
def TrB (rb ro rn : Nat) (R : Nat → Bool) (w : World) : Prop := rb < w.heap.size ∧ ∀ j, j < rn → w.cell? ⟨rb, ro + j, none⟩ = some (.bool (R j))
theorem TrB.at {rb ro rn : Nat} {R : Nat → Bool} {w w' : World} (h : TrB rb ro rn R w) (hs : w.heap.size ≤ w'.heap.size) (hb : w'.heap[rb]? = w.heap[rb]?) : TrB rb ro rn R w' :=
  ⟨Nat.lt_of_lt_of_le h.1 hs, fun j hj => (World.cell?_of_block (w := w) hb).trans (h.2 j hj)⟩
def SCode (rb ro rn rc : Nat) (R : Nat → Bool) (t : Tr) : Prop := ∀ (u v : Value) (base n i p : Nat) (xs : List Value) (P : Nat → Prop) (w : World), t.ok → (∀ g, P g → g < w.heap.size → v.ownBlock ≠ some g) → v.ownBlock ≠ some rb → TrB rb ro rn R w → i + t.flat.length ≤ rn → p + t.flat.length ≤ 1000 → n + t.flat.length ≤ 1048576 → base ≤ w.heap.size → TV w P t i u → w.ownsRow base 74 5 v n xs →
    Calls Try.prog 42 #[u, .int .i64 (p : Int), .slice (some ⟨rb, ro, none⟩) rn rc, v] w fun e w' => ∃ v', e = .returned (.tuple #[v', .int .i64 (t.us R i p : Int)]) ∧ w'.ownsRow base 74 5 v' (n + (t.cd R i p).length) (xs ++ dv (t.cd R i p)) ∧ w.grownBy w' v.ownBlock ∧ Apart w v v'

theorem cd_op (R : Nat → Bool) (o : Int) (a b : Tr) (i p : Nat) : (Tr.op o a b).cd R i p = if R i = true then b.cd R (i + 1 + a.flat.length) p ++ a.cd R (i + 1) (p + 1) ++ [⟨o, p, (p : Int) + 1, p, 0⟩] else a.cd R (i + 1) p ++ b.cd R (i + 1 + a.flat.length) (p + 1) ++ [⟨o, p, p, (p : Int) + 1, 0⟩] := rfl
theorem us_op (R : Nat → Bool) (o : Int) (a b : Tr) (i p : Nat) : (Tr.op o a b).us R i p = if R i = true then max (b.us R (i + 1 + a.flat.length) p) (a.us R (i + 1) (p + 1)) else max (a.us R (i + 1) p) (b.us R (i + 1 + a.flat.length) (p + 1)) := rfl
/-- Four cells of a block written. -/
def set4 (w : World) (b : Nat) (x y z u : Value) : World := (((w.setCell ⟨b, 0, none⟩ x).setCell ⟨b, 1, none⟩ y).setCell ⟨b, 2, none⟩ z).setCell ⟨b, 3, none⟩ u
theorem set4_at {w : World} {b : Nat} {o1 o2 o3 o4 : Value} {t : TypeId} (h : w.heap[b]? = some (.cells #[o1, o2, o3, o4] t (0, 0))) (x y z u : Value) : (set4 w b x y z u).heap[b]? = some (.cells #[x, y, z, u] t (0, 0)) := by
  exact (blk_setCell (i := 3) (blk_setCell (i := 2) (blk_setCell (i := 1) (blk_setCell (i := 0) h x) y) z) u)
theorem set4_size (w : World) (b : Nat) (x y z u : Value) : (set4 w b x y z u).heap.size = w.heap.size := by simp [set4, World.setCell]
theorem set4_ne (w : World) (b : Nat) (x y z u : Value) {k : Nat} (h : k ≠ b) : (set4 w b x y z u).heap[k]? = w.heap[k]? := by
  unfold set4
  rw [Below.heap_setCell _ _ _ _ h, Below.heap_setCell _ _ _ _ h, Below.heap_setCell _ _ _ _ h, Below.heap_setCell _ _ _ _ h]
theorem below_set4 {B b : Nat} {w w' : World} (h : Below B w w') (hb : B ≤ b) (x y z u : Value) : Below B w (set4 w' b x y z u) := (((h.setCell (p := ⟨b, 0, none⟩) hb x).setCell (p := ⟨b, 1, none⟩) hb y).setCell (p := ⟨b, 2, none⟩) hb z).setCell (p := ⟨b, 3, none⟩) hb u
theorem d5_one (x : Cd) : ∀ u ∈ dv [x], u.oneCell' = true := Cd.one [x]
theorem d5_news {w : World} {g : Nat} {x : Cd} {T : TypeId} (h : w.heap[g]? = some (.cells #[.int .i64 x.o, .int .i64 x.to, .int .i64 x.a, .int .i64 x.b, .int .i64 x.n] T (0, 0))) : ∀ j u, (dv [x])[j]? = some u → w.cell? ((⟨g, 0, none⟩ : Addr).add j) = some u := RAt.news (one_blk h)

set_option maxRecDepth 20000 in
set_option maxHeartbeats 4000000 in
theorem sCode_leaf (rb ro rn rc : Nat) (R : Nat → Bool) (x : Int) : SCode rb ro rn rc R (.ld x) := by
  intro u v base n i p xs P w hok hsep hrb hTr hi hp hn hb hT hown
  obtain rfl : u = .agg #[.int .i64 1, .int .i64 x, .int .i64 (i : Int), .slice none 0 0] := hT
  have HO := hide hown
  obtain ⟨ad, c, rfl⟩ := own_form hown
  obtain ⟨i0, hi0, hz0, hz1, hz2⟩ := infoPartsT infoCd
  have Hi := hide hi0
  have M1 : Hid (n + 1 ≤ maxLen) := hide (by unfold maxLen; simp [Tr.flat] at hn; omega)
  have hn1 : n + 1 ≤ 1048576 := by simpa [Tr.flat] using hn
  have hp1 : p + 1 ≤ 1000 := by simpa [Tr.flat] using hp
  clear hown hsep hi0 hn hTr hp hrb
  show Calls _ _ _ _ (fun e w' => ∃ v', e = .returned (.tuple #[v', .int .i64 ((p + 1 : Nat) : Int)]) ∧ w'.ownsRow base 74 5 v' (n + 1) (xs ++ dv [⟨1, p, 0, 0, x⟩]) ∧ _)
  have hpe : ((p + 1 : Nat) : Int) = (p : Int) + 1 := by omega
  rw [hpe]
  clear hpe
  go_enter Try.func42, Try.ntmps42
  go_wp2_with (at_builtin; refine wpList_append_sep rfl _ _ 31 rfl base 74 i0 (.agg #[.int .i64 0, .int .i64 0, .int .i64 0, .int .i64 0, .int .i64 0]) 5 40 Try.underlying31 Hi.out hz0 hz1 hz2 rfl (by decide) _ n xs rfl ((HO.out.alloc _).alloc _) ⟨w.heap.size + 1, 0, none⟩ 1 1 (dv [⟨1, p, 0, 0, x⟩]) rfl rfl (d5_news (by have := heap_alloc_new (w.alloc (.cells #[.int .i64 1, .int .i64 x, .int .i64 (i : Int), .slice none 0 0] 51)) (.cells #[.int .i64 1, .int .i64 (p : Int), .int .i64 0, .int .i64 0, .int .i64 x] 74); simpa using this)) (d5_one _) M1.out (by omega) (by simp; omega) ?_)
  intro v1 w1 hown1 hgrow1 hap1
  obtain ⟨ad1, c1, rfl⟩ := own_form hown1
  have HO1 := hide hown1
  have HG1 : Hid (w.grownBy w1 (Value.slice ad n c).ownBlock) := hide (grownT (grownA w (.cells #[.int .i64 1, .int .i64 x, .int .i64 (i : Int), .slice none 0 0] 51) _) (grownT (grownA _ (.cells #[.int .i64 1, .int .i64 (p : Int), .int .i64 0, .int .i64 0, .int .i64 x] 74) _) hgrow1 (fun k hk => .inl hk)) (fun k hk => .inl hk))
  have HA1 : Hid (Apart w (.slice ad n c) (.slice ad1 (n + 1) c1)) := hide (fun g hg => by
    rcases hap1 g hg with h | h
    · exact .inl h
    · right; simp at h; omega)
  clear hown1 hgrow1 hap1
  go_wp2_with fail
  exact bodyPost_ret (v := .tuple #[.slice ad1 (n + 1) c1, .int .i64 ((p : Int) + 1)]) (by simp [results, Try.results42, go_sem]) rfl ⟨_, rfl, HO1.out, HG1.out, HA1.out⟩

set_option maxRecDepth 20000 in
set_option maxHeartbeats 4000000 in
theorem sCode_node (rb ro rn rc : Nat) (R : Nat → Bool) (k1 : Int) (ta tb : Tr) (iha : SCode rb ro rn rc R ta) (ihb : SCode rb ro rn rc R tb) : SCode rb ro rn rc R (.op k1 ta tb) := by
  intro u v base n i p xs P w hok hsep hrb hTr hi hp hn hb hT hown
  have hl : (Tr.op k1 ta tb).flat.length = 1 + (ta.flat.length + tb.flat.length) := by simp [Tr.flat]; omega
  rw [hl] at hi hp hn
  have hpa := ta.flat_pos
  have hpb := tb.flat_pos
  have ho1 := op_ne hok.1
  obtain ⟨g, cap, aad, al, ac, bad, bl, bc, pa, pb, rfl, hP, hg, hc, h1, h2⟩ := hT.two
  obtain ⟨ad, c, rfl⟩ := own_form hown
  have r0 := hTr.2 i (by omega)
  have hi2 : (i : Int) < (rn : Int) := by omega
  have hi0 : (0 : Int) ≤ (i : Int) := by omega
  have hrbl := hTr.1
  have hb1 : Below w.heap.size w (w.alloc (.cells #[.int .i64 k1, .int .i64 0, .int .i64 (i : Int), .slice (some ⟨g, 0, none⟩) 2 cap] 51)) := (Below.refl _ _).alloc (Nat.le_refl _) _
  have hb2 : Below w.heap.size w ((w.alloc (.cells #[.int .i64 k1, .int .i64 0, .int .i64 (i : Int), .slice (some ⟨g, 0, none⟩) 2 cap] 51)).alloc (.cells #[.int .i64 ta.x.k, .int .i64 ta.x.n, .int .i64 pa, .slice aad al ac] 51)) := hb1.alloc (by simp) _
  have hb3 : Below w.heap.size w (((w.alloc (.cells #[.int .i64 k1, .int .i64 0, .int .i64 (i : Int), .slice (some ⟨g, 0, none⟩) 2 cap] 51)).alloc (.cells #[.int .i64 ta.x.k, .int .i64 ta.x.n, .int .i64 pa, .slice aad al ac] 51)).alloc (.cells #[.int .i64 tb.x.k, .int .i64 tb.x.n, .int .i64 pb, .slice bad bl bc] 51)) := hb2.alloc (by simp; omega) _
  obtain ⟨qa0, qa1, qa2, qa3, -, -, -, -⟩ := hc _ hb1
  obtain ⟨-, -, -, -, qb4, qb5, qb6, qb7⟩ := hc _ hb2
  have ex1 : (w.alloc (.cells #[.int .i64 k1, .int .i64 0, .int .i64 (i : Int), .slice (some ⟨g, 0, none⟩) 2 cap] 51)).heap[w.heap.size]? = some (.cells #[.int .i64 k1, .int .i64 0, .int .i64 (i : Int), .slice (some ⟨g, 0, none⟩) 2 cap] 51 (0, 0)) := heap_alloc_new w _
  have ex2 : ((w.alloc (.cells #[.int .i64 k1, .int .i64 0, .int .i64 (i : Int), .slice (some ⟨g, 0, none⟩) 2 cap] 51)).alloc (.cells #[.int .i64 ta.x.k, .int .i64 ta.x.n, .int .i64 pa, .slice aad al ac] 51)).heap[w.heap.size]? = some (.cells #[.int .i64 k1, .int .i64 0, .int .i64 (i : Int), .slice (some ⟨g, 0, none⟩) 2 cap] 51 (0, 0)) := (heap_alloc_old _ _ (by simp)).trans ex1
  have ex3 : (((w.alloc (.cells #[.int .i64 k1, .int .i64 0, .int .i64 (i : Int), .slice (some ⟨g, 0, none⟩) 2 cap] 51)).alloc (.cells #[.int .i64 ta.x.k, .int .i64 ta.x.n, .int .i64 pa, .slice aad al ac] 51)).alloc (.cells #[.int .i64 tb.x.k, .int .i64 tb.x.n, .int .i64 pb, .slice bad bl bc] 51)).heap[w.heap.size]? = some (.cells #[.int .i64 k1, .int .i64 0, .int .i64 (i : Int), .slice (some ⟨g, 0, none⟩) 2 cap] 51 (0, 0)) := (heap_alloc_old _ _ (by simp; omega)).trans ex2
  have ea2 : ((w.alloc (.cells #[.int .i64 k1, .int .i64 0, .int .i64 (i : Int), .slice (some ⟨g, 0, none⟩) 2 cap] 51)).alloc (.cells #[.int .i64 ta.x.k, .int .i64 ta.x.n, .int .i64 pa, .slice aad al ac] 51)).heap[w.heap.size + 1]? = some (.cells #[.int .i64 ta.x.k, .int .i64 ta.x.n, .int .i64 pa, .slice aad al ac] 51 (0, 0)) := by have := heap_alloc_new (w.alloc (.cells #[.int .i64 k1, .int .i64 0, .int .i64 (i : Int), .slice (some ⟨g, 0, none⟩) 2 cap] 51)) (.cells #[.int .i64 ta.x.k, .int .i64 ta.x.n, .int .i64 pa, .slice aad al ac] 51); simpa using this
  have ea3 : (((w.alloc (.cells #[.int .i64 k1, .int .i64 0, .int .i64 (i : Int), .slice (some ⟨g, 0, none⟩) 2 cap] 51)).alloc (.cells #[.int .i64 ta.x.k, .int .i64 ta.x.n, .int .i64 pa, .slice aad al ac] 51)).alloc (.cells #[.int .i64 tb.x.k, .int .i64 tb.x.n, .int .i64 pb, .slice bad bl bc] 51)).heap[w.heap.size + 1]? = some (.cells #[.int .i64 ta.x.k, .int .i64 ta.x.n, .int .i64 pa, .slice aad al ac] 51 (0, 0)) := (heap_alloc_old _ _ (by simp)).trans ea2
  have eb3 : (((w.alloc (.cells #[.int .i64 k1, .int .i64 0, .int .i64 (i : Int), .slice (some ⟨g, 0, none⟩) 2 cap] 51)).alloc (.cells #[.int .i64 ta.x.k, .int .i64 ta.x.n, .int .i64 pa, .slice aad al ac] 51)).alloc (.cells #[.int .i64 tb.x.k, .int .i64 tb.x.n, .int .i64 pb, .slice bad bl bc] 51)).heap[w.heap.size + 1 + 1]? = some (.cells #[.int .i64 tb.x.k, .int .i64 tb.x.n, .int .i64 pb, .slice bad bl bc] 51 (0, 0)) := by have := heap_alloc_new ((w.alloc (.cells #[.int .i64 k1, .int .i64 0, .int .i64 (i : Int), .slice (some ⟨g, 0, none⟩) 2 cap] 51)).alloc (.cells #[.int .i64 ta.x.k, .int .i64 ta.x.n, .int .i64 pa, .slice aad al ac] 51)) (.cells #[.int .i64 tb.x.k, .int .i64 tb.x.n, .int .i64 pb, .slice bad bl bc] 51); simpa using this
  have hs3 : (((w.alloc (.cells #[.int .i64 k1, .int .i64 0, .int .i64 (i : Int), .slice (some ⟨g, 0, none⟩) 2 cap] 51)).alloc (.cells #[.int .i64 ta.x.k, .int .i64 ta.x.n, .int .i64 pa, .slice aad al ac] 51)).alloc (.cells #[.int .i64 tb.x.k, .int .i64 tb.x.n, .int .i64 pb, .slice bad bl bc] 51)).heap.size = w.heap.size + 1 + 1 + 1 := by simp
  have xb3 := (cell_of_blk ex2 3).trans rfl
  obtain ⟨W3, hW3⟩ : ∃ W3, W3 = (((w.alloc (.cells #[.int .i64 k1, .int .i64 0, .int .i64 (i : Int), .slice (some ⟨g, 0, none⟩) 2 cap] 51)).alloc (.cells #[.int .i64 ta.x.k, .int .i64 ta.x.n, .int .i64 pa, .slice aad al ac] 51)).alloc (.cells #[.int .i64 tb.x.k, .int .i64 tb.x.n, .int .i64 pb, .slice bad bl bc] 51)) := ⟨_, rfl⟩
  rw [← hW3] at hb3 ex3 ea3 eb3 hs3
  have HW3 := hide hW3
  have xc2 := (cell_of_blk ex3 2).trans rfl
  have xc3 := (cell_of_blk ex3 3).trans rfl
  have rr3 : W3.cell? ⟨rb, ro + i, none⟩ = some (.bool (R i)) := (hb3.cell (p := ⟨rb, ro + i, none⟩) hrbl).trans r0
  clear hW3 hb1 hb2 ex1 ex2 ea2
  cases hR : R i with
  | false =>
    rw [hR] at rr3
    have hTl : (Tr.op k1 ta tb).cd R i p = ta.cd R (i + 1) p ++ tb.cd R (i + 1 + ta.flat.length) (p + 1) ++ [⟨k1, (p : Int), (p : Int), ((p : Int) + 1), 0⟩] := by rw [cd_op, if_neg (by rw [hR]; simp)]
    have hTu : (Tr.op k1 ta tb).us R i p = max (ta.us R (i + 1) p) (tb.us R (i + 1 + ta.flat.length) (p + 1)) := by rw [us_op, if_neg (by rw [hR]; simp)]
    have hUX := Tr.us_ge R ta (i + 1) p
    have hUY := Tr.us_ge R tb (i + 1 + ta.flat.length) (p + 1)
    obtain ⟨CX, hCX⟩ : ∃ CX, CX = ta.cd R (i + 1) p := ⟨_, rfl⟩
    obtain ⟨CY, hCY⟩ : ∃ CY, CY = tb.cd R (i + 1 + ta.flat.length) (p + 1) := ⟨_, rfl⟩
    obtain ⟨UX, hVX⟩ : ∃ UX, UX = ta.us R (i + 1) p := ⟨_, rfl⟩
    obtain ⟨UY, hVY⟩ : ∃ UY, UY = tb.us R (i + 1 + ta.flat.length) (p + 1) := ⟨_, rfl⟩
    have nX : CX.length = ta.flat.length := by rw [hCX, Tr.cd_len]
    have nY : CY.length = tb.flat.length := by rw [hCY, Tr.cd_len]
    rw [← hCX, ← hCY] at hTl
    rw [← hVX, ← hVY] at hTu
    rw [← hVX] at hUX
    rw [← hVY] at hUY
    have HIX := hide (fun w2 v2 n2 xs2 h1 h2 h3 h4 h5 h6 h7 => iha (.agg #[.int .i64 ta.x.k, .int .i64 ta.x.n, .int .i64 pa, .slice aad al ac]) v2 base n2 (i + 1) p xs2 (fun k => P k ∧ k < w.heap.size) w2 hok.2.1 h1 h2 h3 (by omega) (by omega) h4 h5 h6 h7)
    have HIY := hide (fun w2 v2 n2 xs2 h1 h2 h3 h4 h5 h6 h7 => ihb (.agg #[.int .i64 tb.x.k, .int .i64 tb.x.n, .int .i64 pb, .slice bad bl bc]) v2 base n2 (i + 1 + ta.flat.length) (p + 1) xs2 (fun k => P k ∧ k < w.heap.size) w2 hok.2.2 h1 h2 h3 (by omega) (by omega) h4 h5 h6 h7)
    rw [← hCX, ← hVX] at HIX
    rw [← hCY, ← hVY] at HIY
    have hp1 : ((p + 1 : Nat) : Int) = (p : Int) + 1 := by omega
    rw [hTl, hTu]
    have HNX := hide nX
    have HNY := hide nY
    have hux : UX ≤ 1000 := by omega
    have huy : UY ≤ 1000 := by omega
    have hnx : n + (CX.length + CY.length + 1) ≤ 1048576 := by omega
    have HTX := hide (h1 w (Below.refl _ _))
    have HTY := hide (h2 w (Below.refl _ _))
    have hol : ∀ k, (Value.slice ad n c).ownBlock = some k → k < w.heap.size := fun k hk => (hown.lt k hk).2
    have HOl := hide hol
    have HRb := hide hrb
    have HRl := hide hrbl
    clear hCX hCY hVX hVY hTl hTu hUX hUY nX nY hol hrb
    obtain ⟨i0, hi0', hz0, hz1, hz2⟩ := infoPartsT infoCd
    have Hi0 := hide hi0'
    clear hi0'
    have ze0 := (cell_of_blk ea3 0).trans rfl
    have ze1 := (cell_of_blk ea3 1).trans rfl
    have ze2 := (cell_of_blk ea3 2).trans rfl
    have ze3 := (cell_of_blk ea3 3).trans rfl
    have HEx := hide ex3
    have HEa := hide ea3
    have HEb := hide eb3
    have HBe := hide hb3
    have HSe := hide hs3
    have HHc := hide hc
    have HTr := hide hTr
    have HO := hide hown
    have HSep := hide hsep
    clear ex3 ea3 eb3 hc hTr h1 h2 hown hsep iha ihb hok r0 hl hT hrbl hi hb3 hs3
    go_enter Try.func42, Try.ntmps42
    go_wp2_with (rw [← HW3.out])
    have HTX2 := hide (HTX.out.keep (w' := W3) (P' := fun k => P k ∧ k < w.heap.size) HBe.out.size (fun k hp hk => ⟨HBe.out.block k hk, hp, hk⟩))
    have HCX := hide (HIX.out W3 _ n xs (fun k h1 _ => HSep.out k h1.1 h1.2) HRb.out (HTr.out.at HBe.out.size (HBe.out.block rb HRl.out)) (by omega) (Nat.le_trans hb HBe.out.size) HTX2.out (tOwn_keep HO.out (fun k _ hk => HBe.out.block k hk)))
    refine HCX.out.mono ?_
    rintro e w2 ⟨v2, rfl, ho2, hg2, ha2⟩
    obtain ⟨ad2, c2, rfl⟩ := own_form ho2
    have hsE := HSe.out
    have HG2 : Hid (w.grownBy w2 (Value.slice ad n c).ownBlock) := hide (grownT (r := (Value.slice ad n c).ownBlock) ⟨HBe.out.os, HBe.out.tape, HBe.out.output, HBe.out.size, fun k hk _ => HBe.out.block k hk⟩ hg2 (fun k hk => .inl hk))
    have HAE := hide ha2
    have HA2 : Hid (Apart w (.slice ad n c) (.slice ad2 (n + CX.length) c2)) := hide (fun k hk => by
      rcases ha2 k hk with h | h
      · exact .inl h
      · right; omega)
    have ey2 := (hg2.block (w.heap.size + 1 + 1) (by omega) (fun e => by have := HOl.out _ e.symm; omega)).trans HEb.out
    have ex2 := (hg2.block w.heap.size (by omega) (fun e => by have := HOl.out _ e.symm; omega)).trans HEx.out
    have hs2 := hg2.size
    have y0 := (cell_of_blk ey2 0).trans rfl
    have y1 := (cell_of_blk ey2 1).trans rfl
    have y2 := (cell_of_blk ey2 2).trans rfl
    have y3 := (cell_of_blk ey2 3).trans rfl
    have HEx2 := hide ex2
    have HTY2 := hide (HTY.out.keep (w' := w2) (P' := fun k => P k ∧ k < w.heap.size) HG2.out.size (fun k hp hk => ⟨HG2.out.block k hk (fun e => HSep.out k hp hk e.symm), hp, hk⟩))
    have HCY := hide (HIY.out w2 (.slice ad2 (n + CX.length) c2) (n + CX.length) (xs ++ dv CX) (fun k h1 _ e => by
        rcases HA2.out k e with h | h
        · exact HSep.out k h1.1 h1.2 h
        · have := h1.2; omega) (fun e => by
        rcases HA2.out rb e with h | h
        · exact HRb.out h
        · have := HRl.out; omega) (HTr.out.at HG2.out.size (HG2.out.block rb HRl.out (fun e => HRb.out e.symm))) (by have := HNY.out; omega) (Nat.le_trans hb HG2.out.size) HTY2.out ho2)
    rw [hp1] at HCY
    clear ho2 hg2 ha2 ey2 ex2 HCX HIX HIY HTX HTX2 hp1 ze0 ze1 ze2 ze3
    go_wp2_with fail
    refine HCY.out.mono ?_
    rintro e w3 ⟨v3, rfl, ho3, hg3, ha3⟩
    obtain ⟨ad3, c3, rfl⟩ := own_form ho3
    have HG3 : Hid (w.grownBy w3 (Value.slice ad n c).ownBlock) := hide (grownT HG2.out hg3 (fun k hk => HA2.out k hk))
    have HA3 : Hid (Apart w (.slice ad n c) (.slice ad3 (n + CX.length + CY.length) c3)) := hide (apartT HA2.out ha3 (by omega))
    have ex3 := (hg3.block w.heap.size (by omega) (fun e => by
      rcases HAE.out _ e.symm with h | h
      · have := HOl.out _ h; omega
      · omega)).trans HEx2.out
    have x0 := (cell_of_blk ex3 0).trans rfl
    have HO3 := hide ho3
    have hs3 := hg3.size
    have M1 : Hid (n + CX.length + CY.length + 1 ≤ maxLen) := hide (by unfold maxLen; omega)
    have hTT : n + (CX ++ CY ++ ([⟨k1, (p : Int), (p : Int), ((p : Int) + 1), 0⟩] : List Cd)).length = n + CX.length + CY.length + 1 := by simp; omega
    have hTD : xs ++ dv (CX ++ CY ++ ([⟨k1, (p : Int), (p : Int), ((p : Int) + 1), 0⟩] : List Cd)) = xs ++ dv CX ++ dv CY ++ dv [⟨k1, (p : Int), (p : Int), ((p : Int) + 1), 0⟩] := by rw [dv_app, dv_app]; simp only [List.append_assoc]
    have HTT := hide hTT
    have HTD := hide hTD
    have hbw3 : base ≤ w3.heap.size := by omega
    have hww3 : w.heap.size ≤ w3.heap.size := by omega
    clear ho3 hg3 ha3 ex3 y0 y1 y2 y3 HCY hTT hTD HTY HTY2 HEx HEx2 HEa HEb hsE
    by_cases hgt : UX < UY
    · have hgt2 : (UX : Int) < (UY : Int) := by omega
      have hmx : max UX UY = UY := by omega
      have HMx := hide hmx
      clear hmx
      go_wp2_with (at_builtin; refine wpList_append_sep rfl _ _ 31 rfl base 74 i0 (.agg #[.int .i64 0, .int .i64 0, .int .i64 0, .int .i64 0, .int .i64 0]) 5 40 Try.underlying31 Hi0.out hz0 hz1 hz2 rfl (by decide) _ (n + CX.length + CY.length) (xs ++ dv CX ++ dv CY) rfl (HO3.out.alloc _) ⟨w3.heap.size, 0, none⟩ 1 1 (dv [⟨k1, (p : Int), (p : Int), ((p : Int) + 1), 0⟩]) rfl rfl (d5_news (heap_alloc_new w3 (.cells #[.int .i64 k1, .int .i64 (p : Int), .int .i64 (p : Int), .int .i64 ((p : Int) + 1), .int .i64 0] 74))) (d5_one _) M1.out (by omega) (by simp; omega) ?_)
      intro v4 w4 hown4 hgrow4 hap4
      obtain ⟨ad4, c4, rfl⟩ := own_form hown4
      have HO4 := hide hown4
      have HG4 : Hid (w.grownBy w4 (Value.slice ad n c).ownBlock) := hide (grownT HG3.out (grownT (grownA w3 (.cells #[.int .i64 k1, .int .i64 (p : Int), .int .i64 (p : Int), .int .i64 ((p : Int) + 1), .int .i64 0] 74) _) hgrow4 (fun k hk => .inl hk)) (fun k hk => HA3.out k hk))
      have HA4 : Hid (Apart w (.slice ad n c) (.slice ad4 (n + CX.length + CY.length + 1) c4)) := hide (apartT HA3.out (fun k hk => by
          rcases hap4 k hk with h | h
          · exact .inl h
          · right; simp at h; omega) hww3)
      clear hown4 hgrow4 hap4
      go_wp2_with fail
      refine bodyPost_ret (v := .tuple #[.slice ad4 (n + CX.length + CY.length + 1) c4, .int .i64 (UY : Int)]) (by simp [results, Try.results42, go_sem]) rfl ⟨_, by rw [HMx.out], ?_, HG4.out, HA4.out⟩
      rw [HTT.out, HTD.out]
      have h4 := HO4.out
      simp only [List.append_assoc] at h4 ⊢
      exact h4
    · have hgt2 : ¬ (UX : Int) < (UY : Int) := by omega
      have hmx : max UX UY = UX := by omega
      have HMx := hide hmx
      clear hmx
      go_wp2_with (at_builtin; refine wpList_append_sep rfl _ _ 31 rfl base 74 i0 (.agg #[.int .i64 0, .int .i64 0, .int .i64 0, .int .i64 0, .int .i64 0]) 5 40 Try.underlying31 Hi0.out hz0 hz1 hz2 rfl (by decide) _ (n + CX.length + CY.length) (xs ++ dv CX ++ dv CY) rfl (HO3.out.alloc _) ⟨w3.heap.size, 0, none⟩ 1 1 (dv [⟨k1, (p : Int), (p : Int), ((p : Int) + 1), 0⟩]) rfl rfl (d5_news (heap_alloc_new w3 (.cells #[.int .i64 k1, .int .i64 (p : Int), .int .i64 (p : Int), .int .i64 ((p : Int) + 1), .int .i64 0] 74))) (d5_one _) M1.out (by omega) (by simp; omega) ?_)
      intro v4 w4 hown4 hgrow4 hap4
      obtain ⟨ad4, c4, rfl⟩ := own_form hown4
      have HO4 := hide hown4
      have HG4 : Hid (w.grownBy w4 (Value.slice ad n c).ownBlock) := hide (grownT HG3.out (grownT (grownA w3 (.cells #[.int .i64 k1, .int .i64 (p : Int), .int .i64 (p : Int), .int .i64 ((p : Int) + 1), .int .i64 0] 74) _) hgrow4 (fun k hk => .inl hk)) (fun k hk => HA3.out k hk))
      have HA4 : Hid (Apart w (.slice ad n c) (.slice ad4 (n + CX.length + CY.length + 1) c4)) := hide (apartT HA3.out (fun k hk => by
          rcases hap4 k hk with h | h
          · exact .inl h
          · right; simp at h; omega) hww3)
      clear hown4 hgrow4 hap4
      go_wp2_with fail
      refine bodyPost_ret (v := .tuple #[.slice ad4 (n + CX.length + CY.length + 1) c4, .int .i64 (UX : Int)]) (by simp [results, Try.results42, go_sem]) rfl ⟨_, by rw [HMx.out], ?_, HG4.out, HA4.out⟩
      rw [HTT.out, HTD.out]
      have h4 := HO4.out
      simp only [List.append_assoc] at h4 ⊢
      exact h4
  | true =>
    rw [hR] at rr3
    have hTl : (Tr.op k1 ta tb).cd R i p = tb.cd R (i + 1 + ta.flat.length) p ++ ta.cd R (i + 1) (p + 1) ++ [⟨k1, (p : Int), ((p : Int) + 1), (p : Int), 0⟩] := by rw [cd_op, if_pos hR]
    have hTu : (Tr.op k1 ta tb).us R i p = max (tb.us R (i + 1 + ta.flat.length) p) (ta.us R (i + 1) (p + 1)) := by rw [us_op, if_pos hR]
    have hUX := Tr.us_ge R tb (i + 1 + ta.flat.length) p
    have hUY := Tr.us_ge R ta (i + 1) (p + 1)
    obtain ⟨CX, hCX⟩ : ∃ CX, CX = tb.cd R (i + 1 + ta.flat.length) p := ⟨_, rfl⟩
    obtain ⟨CY, hCY⟩ : ∃ CY, CY = ta.cd R (i + 1) (p + 1) := ⟨_, rfl⟩
    obtain ⟨UX, hVX⟩ : ∃ UX, UX = tb.us R (i + 1 + ta.flat.length) p := ⟨_, rfl⟩
    obtain ⟨UY, hVY⟩ : ∃ UY, UY = ta.us R (i + 1) (p + 1) := ⟨_, rfl⟩
    have nX : CX.length = tb.flat.length := by rw [hCX, Tr.cd_len]
    have nY : CY.length = ta.flat.length := by rw [hCY, Tr.cd_len]
    rw [← hCX, ← hCY] at hTl
    rw [← hVX, ← hVY] at hTu
    rw [← hVX] at hUX
    rw [← hVY] at hUY
    have HIX := hide (fun w2 v2 n2 xs2 h1 h2 h3 h4 h5 h6 h7 => ihb (.agg #[.int .i64 tb.x.k, .int .i64 tb.x.n, .int .i64 pb, .slice bad bl bc]) v2 base n2 (i + 1 + ta.flat.length) p xs2 (fun k => P k ∧ k < w.heap.size) w2 hok.2.2 h1 h2 h3 (by omega) (by omega) h4 h5 h6 h7)
    have HIY := hide (fun w2 v2 n2 xs2 h1 h2 h3 h4 h5 h6 h7 => iha (.agg #[.int .i64 ta.x.k, .int .i64 ta.x.n, .int .i64 pa, .slice aad al ac]) v2 base n2 (i + 1) (p + 1) xs2 (fun k => P k ∧ k < w.heap.size) w2 hok.2.1 h1 h2 h3 (by omega) (by omega) h4 h5 h6 h7)
    rw [← hCX, ← hVX] at HIX
    rw [← hCY, ← hVY] at HIY
    have hp1 : ((p + 1 : Nat) : Int) = (p : Int) + 1 := by omega
    rw [hTl, hTu]
    have HNX := hide nX
    have HNY := hide nY
    have hux : UX ≤ 1000 := by omega
    have huy : UY ≤ 1000 := by omega
    have hnx : n + (CX.length + CY.length + 1) ≤ 1048576 := by omega
    have HTX := hide (h2 w (Below.refl _ _))
    have HTY := hide (h1 w (Below.refl _ _))
    have hol : ∀ k, (Value.slice ad n c).ownBlock = some k → k < w.heap.size := fun k hk => (hown.lt k hk).2
    have HOl := hide hol
    have HRb := hide hrb
    have HRl := hide hrbl
    clear hCX hCY hVX hVY hTl hTu hUX hUY nX nY hol hrb
    obtain ⟨i0, hi0', hz0, hz1, hz2⟩ := infoPartsT infoCd
    have Hi0 := hide hi0'
    clear hi0'
    obtain ⟨-, -, -, -, qc4, qc5, qc6, qc7⟩ := hc _ hb3
    have za0 := (cell_of_blk ea3 0).trans rfl
    have za1 := (cell_of_blk ea3 1).trans rfl
    have za2 := (cell_of_blk ea3 2).trans rfl
    have za3 := (cell_of_blk ea3 3).trans rfl
    have zaf := unfrozen_of_blk ea3
    have hb4 : Below w.heap.size w ((((W3.setCell ⟨w.heap.size + 1, 0, none⟩ (.int .i64 tb.x.k)).setCell ⟨w.heap.size + 1, 1, none⟩ (.int .i64 tb.x.n)).setCell ⟨w.heap.size + 1, 2, none⟩ (.int .i64 pb)).setCell ⟨w.heap.size + 1, 3, none⟩ (.slice bad bl bc)) := below_set4 hb3 (by omega) _ _ _ _
    have ea4 : ((((W3.setCell ⟨w.heap.size + 1, 0, none⟩ (.int .i64 tb.x.k)).setCell ⟨w.heap.size + 1, 1, none⟩ (.int .i64 tb.x.n)).setCell ⟨w.heap.size + 1, 2, none⟩ (.int .i64 pb)).setCell ⟨w.heap.size + 1, 3, none⟩ (.slice bad bl bc)).heap[w.heap.size + 1]? = some (.cells #[.int .i64 tb.x.k, .int .i64 tb.x.n, .int .i64 pb, .slice bad bl bc] 51 (0, 0)) := set4_at ea3 _ _ _ _
    have ex4 : ((((W3.setCell ⟨w.heap.size + 1, 0, none⟩ (.int .i64 tb.x.k)).setCell ⟨w.heap.size + 1, 1, none⟩ (.int .i64 tb.x.n)).setCell ⟨w.heap.size + 1, 2, none⟩ (.int .i64 pb)).setCell ⟨w.heap.size + 1, 3, none⟩ (.slice bad bl bc)).heap[w.heap.size]? = some (.cells #[.int .i64 k1, .int .i64 0, .int .i64 (i : Int), .slice (some ⟨g, 0, none⟩) 2 cap] 51 (0, 0)) := (set4_ne _ _ _ _ _ _ (by omega)).trans ex3
    have eb4 : ((((W3.setCell ⟨w.heap.size + 1, 0, none⟩ (.int .i64 tb.x.k)).setCell ⟨w.heap.size + 1, 1, none⟩ (.int .i64 tb.x.n)).setCell ⟨w.heap.size + 1, 2, none⟩ (.int .i64 pb)).setCell ⟨w.heap.size + 1, 3, none⟩ (.slice bad bl bc)).heap[w.heap.size + 1 + 1]? = some (.cells #[.int .i64 tb.x.k, .int .i64 tb.x.n, .int .i64 pb, .slice bad bl bc] 51 (0, 0)) := (set4_ne _ _ _ _ _ _ (by omega)).trans eb3
    have hs4 : ((((W3.setCell ⟨w.heap.size + 1, 0, none⟩ (.int .i64 tb.x.k)).setCell ⟨w.heap.size + 1, 1, none⟩ (.int .i64 tb.x.n)).setCell ⟨w.heap.size + 1, 2, none⟩ (.int .i64 pb)).setCell ⟨w.heap.size + 1, 3, none⟩ (.slice bad bl bc)).heap.size = w.heap.size + 1 + 1 + 1 := (set4_size _ _ _ _ _ _).trans hs3
    obtain ⟨W4, hW4⟩ : ∃ W4, W4 = ((((W3.setCell ⟨w.heap.size + 1, 0, none⟩ (.int .i64 tb.x.k)).setCell ⟨w.heap.size + 1, 1, none⟩ (.int .i64 tb.x.n)).setCell ⟨w.heap.size + 1, 2, none⟩ (.int .i64 pb)).setCell ⟨w.heap.size + 1, 3, none⟩ (.slice bad bl bc)) := ⟨_, rfl⟩
    rw [← hW4] at hb4 ex4 ea4 eb4 hs4
    have HW4 := hide hW4
    have xd3 := (cell_of_blk ex4 3).trans rfl
    obtain ⟨qd0, qd1, qd2, qd3, -, -, -, -⟩ := hc _ hb4
    have zb0 := (cell_of_blk eb4 0).trans rfl
    have zb1 := (cell_of_blk eb4 1).trans rfl
    have zb2 := (cell_of_blk eb4 2).trans rfl
    have zb3 := (cell_of_blk eb4 3).trans rfl
    have zbf := unfrozen_of_blk eb4
    have hb5 : Below w.heap.size w ((((W4.setCell ⟨w.heap.size + 1 + 1, 0, none⟩ (.int .i64 ta.x.k)).setCell ⟨w.heap.size + 1 + 1, 1, none⟩ (.int .i64 ta.x.n)).setCell ⟨w.heap.size + 1 + 1, 2, none⟩ (.int .i64 pa)).setCell ⟨w.heap.size + 1 + 1, 3, none⟩ (.slice aad al ac)) := below_set4 hb4 (by omega) _ _ _ _
    have eb5 : ((((W4.setCell ⟨w.heap.size + 1 + 1, 0, none⟩ (.int .i64 ta.x.k)).setCell ⟨w.heap.size + 1 + 1, 1, none⟩ (.int .i64 ta.x.n)).setCell ⟨w.heap.size + 1 + 1, 2, none⟩ (.int .i64 pa)).setCell ⟨w.heap.size + 1 + 1, 3, none⟩ (.slice aad al ac)).heap[w.heap.size + 1 + 1]? = some (.cells #[.int .i64 ta.x.k, .int .i64 ta.x.n, .int .i64 pa, .slice aad al ac] 51 (0, 0)) := set4_at eb4 _ _ _ _
    have ea5 : ((((W4.setCell ⟨w.heap.size + 1 + 1, 0, none⟩ (.int .i64 ta.x.k)).setCell ⟨w.heap.size + 1 + 1, 1, none⟩ (.int .i64 ta.x.n)).setCell ⟨w.heap.size + 1 + 1, 2, none⟩ (.int .i64 pa)).setCell ⟨w.heap.size + 1 + 1, 3, none⟩ (.slice aad al ac)).heap[w.heap.size + 1]? = some (.cells #[.int .i64 tb.x.k, .int .i64 tb.x.n, .int .i64 pb, .slice bad bl bc] 51 (0, 0)) := (set4_ne _ _ _ _ _ _ (by omega)).trans ea4
    have ex5 : ((((W4.setCell ⟨w.heap.size + 1 + 1, 0, none⟩ (.int .i64 ta.x.k)).setCell ⟨w.heap.size + 1 + 1, 1, none⟩ (.int .i64 ta.x.n)).setCell ⟨w.heap.size + 1 + 1, 2, none⟩ (.int .i64 pa)).setCell ⟨w.heap.size + 1 + 1, 3, none⟩ (.slice aad al ac)).heap[w.heap.size]? = some (.cells #[.int .i64 k1, .int .i64 0, .int .i64 (i : Int), .slice (some ⟨g, 0, none⟩) 2 cap] 51 (0, 0)) := (set4_ne _ _ _ _ _ _ (by omega)).trans ex4
    have hs5 : ((((W4.setCell ⟨w.heap.size + 1 + 1, 0, none⟩ (.int .i64 ta.x.k)).setCell ⟨w.heap.size + 1 + 1, 1, none⟩ (.int .i64 ta.x.n)).setCell ⟨w.heap.size + 1 + 1, 2, none⟩ (.int .i64 pa)).setCell ⟨w.heap.size + 1 + 1, 3, none⟩ (.slice aad al ac)).heap.size = w.heap.size + 1 + 1 + 1 := (set4_size _ _ _ _ _ _).trans hs4
    obtain ⟨W5, hW5⟩ : ∃ W5, W5 = ((((W4.setCell ⟨w.heap.size + 1 + 1, 0, none⟩ (.int .i64 ta.x.k)).setCell ⟨w.heap.size + 1 + 1, 1, none⟩ (.int .i64 ta.x.n)).setCell ⟨w.heap.size + 1 + 1, 2, none⟩ (.int .i64 pa)).setCell ⟨w.heap.size + 1 + 1, 3, none⟩ (.slice aad al ac)) := ⟨_, rfl⟩
    rw [← hW5] at hb5 ex5 ea5 eb5 hs5
    have HW5 := hide hW5
    clear hW4 hW5 hs4 hb4 hs3 hb3
    have ze0 := (cell_of_blk ea5 0).trans rfl
    have ze1 := (cell_of_blk ea5 1).trans rfl
    have ze2 := (cell_of_blk ea5 2).trans rfl
    have ze3 := (cell_of_blk ea5 3).trans rfl
    have HEx := hide ex5
    have HEa := hide ea5
    have HEb := hide eb5
    have HBe := hide hb5
    have HSe := hide hs5
    have HHc := hide hc
    have HTr := hide hTr
    have HO := hide hown
    have HSep := hide hsep
    clear ex3 ea3 eb3 hc hTr h1 h2 hown hsep iha ihb hok r0 hl hT hrbl hi hb5 hs5 ex4 ex5 ea4 ea5 eb4 eb5
    go_enter Try.func42, Try.ntmps42
    go_wp2_with (first | rw [← HW3.out] | rw [← HW4.out] | rw [← HW5.out])
    have HTX2 := hide (HTX.out.keep (w' := W5) (P' := fun k => P k ∧ k < w.heap.size) HBe.out.size (fun k hp hk => ⟨HBe.out.block k hk, hp, hk⟩))
    have HCX := hide (HIX.out W5 _ n xs (fun k h1 _ => HSep.out k h1.1 h1.2) HRb.out (HTr.out.at HBe.out.size (HBe.out.block rb HRl.out)) (by omega) (Nat.le_trans hb HBe.out.size) HTX2.out (tOwn_keep HO.out (fun k _ hk => HBe.out.block k hk)))
    refine HCX.out.mono ?_
    rintro e w2 ⟨v2, rfl, ho2, hg2, ha2⟩
    obtain ⟨ad2, c2, rfl⟩ := own_form ho2
    have hsE := HSe.out
    have HG2 : Hid (w.grownBy w2 (Value.slice ad n c).ownBlock) := hide (grownT (r := (Value.slice ad n c).ownBlock) ⟨HBe.out.os, HBe.out.tape, HBe.out.output, HBe.out.size, fun k hk _ => HBe.out.block k hk⟩ hg2 (fun k hk => .inl hk))
    have HAE := hide ha2
    have HA2 : Hid (Apart w (.slice ad n c) (.slice ad2 (n + CX.length) c2)) := hide (fun k hk => by
      rcases ha2 k hk with h | h
      · exact .inl h
      · right; omega)
    have ey2 := (hg2.block (w.heap.size + 1 + 1) (by omega) (fun e => by have := HOl.out _ e.symm; omega)).trans HEb.out
    have ex2 := (hg2.block w.heap.size (by omega) (fun e => by have := HOl.out _ e.symm; omega)).trans HEx.out
    have hs2 := hg2.size
    have y0 := (cell_of_blk ey2 0).trans rfl
    have y1 := (cell_of_blk ey2 1).trans rfl
    have y2 := (cell_of_blk ey2 2).trans rfl
    have y3 := (cell_of_blk ey2 3).trans rfl
    have HEx2 := hide ex2
    have HTY2 := hide (HTY.out.keep (w' := w2) (P' := fun k => P k ∧ k < w.heap.size) HG2.out.size (fun k hp hk => ⟨HG2.out.block k hk (fun e => HSep.out k hp hk e.symm), hp, hk⟩))
    have HCY := hide (HIY.out w2 (.slice ad2 (n + CX.length) c2) (n + CX.length) (xs ++ dv CX) (fun k h1 _ e => by
        rcases HA2.out k e with h | h
        · exact HSep.out k h1.1 h1.2 h
        · have := h1.2; omega) (fun e => by
        rcases HA2.out rb e with h | h
        · exact HRb.out h
        · have := HRl.out; omega) (HTr.out.at HG2.out.size (HG2.out.block rb HRl.out (fun e => HRb.out e.symm))) (by have := HNY.out; omega) (Nat.le_trans hb HG2.out.size) HTY2.out ho2)
    rw [hp1] at HCY
    clear ho2 hg2 ha2 ey2 ex2 HCX HIX HIY HTX HTX2 hp1 ze0 ze1 ze2 ze3
    go_wp2_with fail
    refine HCY.out.mono ?_
    rintro e w3 ⟨v3, rfl, ho3, hg3, ha3⟩
    obtain ⟨ad3, c3, rfl⟩ := own_form ho3
    have HG3 : Hid (w.grownBy w3 (Value.slice ad n c).ownBlock) := hide (grownT HG2.out hg3 (fun k hk => HA2.out k hk))
    have HA3 : Hid (Apart w (.slice ad n c) (.slice ad3 (n + CX.length + CY.length) c3)) := hide (apartT HA2.out ha3 (by omega))
    have ex3 := (hg3.block w.heap.size (by omega) (fun e => by
      rcases HAE.out _ e.symm with h | h
      · have := HOl.out _ h; omega
      · omega)).trans HEx2.out
    have x0 := (cell_of_blk ex3 0).trans rfl
    have HO3 := hide ho3
    have hs3 := hg3.size
    have M1 : Hid (n + CX.length + CY.length + 1 ≤ maxLen) := hide (by unfold maxLen; omega)
    have hTT : n + (CX ++ CY ++ ([⟨k1, (p : Int), ((p : Int) + 1), (p : Int), 0⟩] : List Cd)).length = n + CX.length + CY.length + 1 := by simp; omega
    have hTD : xs ++ dv (CX ++ CY ++ ([⟨k1, (p : Int), ((p : Int) + 1), (p : Int), 0⟩] : List Cd)) = xs ++ dv CX ++ dv CY ++ dv [⟨k1, (p : Int), ((p : Int) + 1), (p : Int), 0⟩] := by rw [dv_app, dv_app]; simp only [List.append_assoc]
    have HTT := hide hTT
    have HTD := hide hTD
    have hbw3 : base ≤ w3.heap.size := by omega
    have hww3 : w.heap.size ≤ w3.heap.size := by omega
    clear ho3 hg3 ha3 ex3 y0 y1 y2 y3 HCY hTT hTD HTY HTY2 HEx HEx2 HEa HEb hsE
    by_cases hgt : UX < UY
    · have hgt2 : (UX : Int) < (UY : Int) := by omega
      have hmx : max UX UY = UY := by omega
      have HMx := hide hmx
      clear hmx
      go_wp2_with (at_builtin; refine wpList_append_sep rfl _ _ 31 rfl base 74 i0 (.agg #[.int .i64 0, .int .i64 0, .int .i64 0, .int .i64 0, .int .i64 0]) 5 40 Try.underlying31 Hi0.out hz0 hz1 hz2 rfl (by decide) _ (n + CX.length + CY.length) (xs ++ dv CX ++ dv CY) rfl (HO3.out.alloc _) ⟨w3.heap.size, 0, none⟩ 1 1 (dv [⟨k1, (p : Int), ((p : Int) + 1), (p : Int), 0⟩]) rfl rfl (d5_news (heap_alloc_new w3 (.cells #[.int .i64 k1, .int .i64 (p : Int), .int .i64 ((p : Int) + 1), .int .i64 (p : Int), .int .i64 0] 74))) (d5_one _) M1.out (by omega) (by simp; omega) ?_)
      intro v4 w4 hown4 hgrow4 hap4
      obtain ⟨ad4, c4, rfl⟩ := own_form hown4
      have HO4 := hide hown4
      have HG4 : Hid (w.grownBy w4 (Value.slice ad n c).ownBlock) := hide (grownT HG3.out (grownT (grownA w3 (.cells #[.int .i64 k1, .int .i64 (p : Int), .int .i64 ((p : Int) + 1), .int .i64 (p : Int), .int .i64 0] 74) _) hgrow4 (fun k hk => .inl hk)) (fun k hk => HA3.out k hk))
      have HA4 : Hid (Apart w (.slice ad n c) (.slice ad4 (n + CX.length + CY.length + 1) c4)) := hide (apartT HA3.out (fun k hk => by
          rcases hap4 k hk with h | h
          · exact .inl h
          · right; simp at h; omega) hww3)
      clear hown4 hgrow4 hap4
      go_wp2_with fail
      refine bodyPost_ret (v := .tuple #[.slice ad4 (n + CX.length + CY.length + 1) c4, .int .i64 (UY : Int)]) (by simp [results, Try.results42, go_sem]) rfl ⟨_, by rw [HMx.out], ?_, HG4.out, HA4.out⟩
      rw [HTT.out, HTD.out]
      have h4 := HO4.out
      simp only [List.append_assoc] at h4 ⊢
      exact h4
    · have hgt2 : ¬ (UX : Int) < (UY : Int) := by omega
      have hmx : max UX UY = UX := by omega
      have HMx := hide hmx
      clear hmx
      go_wp2_with (at_builtin; refine wpList_append_sep rfl _ _ 31 rfl base 74 i0 (.agg #[.int .i64 0, .int .i64 0, .int .i64 0, .int .i64 0, .int .i64 0]) 5 40 Try.underlying31 Hi0.out hz0 hz1 hz2 rfl (by decide) _ (n + CX.length + CY.length) (xs ++ dv CX ++ dv CY) rfl (HO3.out.alloc _) ⟨w3.heap.size, 0, none⟩ 1 1 (dv [⟨k1, (p : Int), ((p : Int) + 1), (p : Int), 0⟩]) rfl rfl (d5_news (heap_alloc_new w3 (.cells #[.int .i64 k1, .int .i64 (p : Int), .int .i64 ((p : Int) + 1), .int .i64 (p : Int), .int .i64 0] 74))) (d5_one _) M1.out (by omega) (by simp; omega) ?_)
      intro v4 w4 hown4 hgrow4 hap4
      obtain ⟨ad4, c4, rfl⟩ := own_form hown4
      have HO4 := hide hown4
      have HG4 : Hid (w.grownBy w4 (Value.slice ad n c).ownBlock) := hide (grownT HG3.out (grownT (grownA w3 (.cells #[.int .i64 k1, .int .i64 (p : Int), .int .i64 ((p : Int) + 1), .int .i64 (p : Int), .int .i64 0] 74) _) hgrow4 (fun k hk => .inl hk)) (fun k hk => HA3.out k hk))
      have HA4 : Hid (Apart w (.slice ad n c) (.slice ad4 (n + CX.length + CY.length + 1) c4)) := hide (apartT HA3.out (fun k hk => by
          rcases hap4 k hk with h | h
          · exact .inl h
          · right; simp at h; omega) hww3)
      clear hown4 hgrow4 hap4
      go_wp2_with fail
      refine bodyPost_ret (v := .tuple #[.slice ad4 (n + CX.length + CY.length + 1) c4, .int .i64 (UX : Int)]) (by simp [results, Try.results42, go_sem]) rfl ⟨_, by rw [HMx.out], ?_, HG4.out, HA4.out⟩
      rw [HTT.out, HTD.out]
      have h4 := HO4.out
      simp only [List.append_assoc] at h4 ⊢
      exact h4

theorem sCode_any (rb ro rn rc : Nat) (R : Nat → Bool) : ∀ t : Tr, SCode rb ro rn rc R t
  | .ld x => sCode_leaf rb ro rn rc R x
  | .op k1 ta tb => sCode_node rb ro rn rc R k1 ta tb (sCode_any rb ro rn rc R ta) (sCode_any rb ro rn rc R tb)

set_option maxRecDepth 20000 in
set_option maxHeartbeats 2000000 in
theorem specCodeBy_any (ad : Option Addr) (c : Nat) (l : List Cc) (ra : Option Addr) (rc : Nat) (rs : List Bool) (w : World) (hl : l.length ≤ 1048576) (h : CRow w ad l) (hrl : rs.length ≤ 1048576) (hr : ORow w ra rs) :
    Calls Try.prog 22 #[.slice ad l.length c, .slice ra rs.length rc] w fun e w' => ∃ v, e = .returned (.tuple #[v, .int .i64 (cbN l rs : Int), .bool (okB l rs)]) ∧ w'.ownsRow w.heap.size 74 5 v (cbL l rs).length (dv (cbL l rs)) ∧ Below w.heap.size w w' := by
  cases hok : okB l rs with
  | false =>
    rw [(cb_bad hok).1, (cb_bad hok).2]
    have HN : Hid (∀ w' : World, w'.ownsRow w.heap.size 74 5 (.slice none 0 0) 0 (dv [])) := hide (fun w' => World.ownsRow_nil _ _ _ _)
    cases hg : goodT l with
    | false =>
      have HT := hide (l13Tree_bad ad c l w hl h hg)
      clear hok h hr
      go_enter Try.func22, Try.ntmps22
      go_wp2_with fail
      refine HT.out.mono ?_
      rintro e w1 ⟨hb1, k, n, p, sad, sn, sc, rfl⟩
      go_wp2_with fail
      exact bodyPost_ret (v := .tuple #[.slice none 0 0, .int .i64 0, .bool false]) (by simp [results, Try.results22, go_sem]) rfl ⟨_, rfl, HN.out _, hb1.alloc hb1.size _⟩
    | true =>
      obtain ⟨t1, t2, t3, t4⟩ := trOf_good hg
      have HT := hide (l13Tree_tr ad c l w hl h (trOf l) t4)
      have hne : rs.length ≠ l.length := by
        intro e; unfold okB at hok; rw [hg, decide_eq_true e] at hok; cases hok
      have hne' : ¬ (rs.length : Int) = (l.length : Int) := by omega
      obtain ⟨T, hTe⟩ : ∃ T, T = trOf l := ⟨_, rfl⟩
      rw [← hTe] at HT
      clear hok h hr t1 t2 t3 t4 hTe
      go_enter Try.func22, Try.ntmps22
      go_wp2_with fail
      refine HT.out.mono ?_
      rintro e w1 ⟨hb1, v, rfl, hv⟩
      obtain ⟨ad1, l1, c1, rfl⟩ := hv.form
      clear hv
      go_wp2_with fail
      exact bodyPost_ret (v := .tuple #[.slice none 0 0, .int .i64 0, .bool false]) (by simp [results, Try.results22, go_sem]) rfl ⟨_, rfl, HN.out _, hb1.alloc hb1.size _⟩
  | true =>
    obtain ⟨e1, e2, hg, hle⟩ := cb_ok hok
    obtain ⟨t1, t2, t3, t4⟩ := trOf_good hg
    have HT := hide (l13Tree_tr ad c l w hl h (trOf l) t4)
    have hpos : 0 < l.length := by rw [t2]; exact (trOf l).flat_pos
    obtain ⟨rb, ro, rfl, hrow2⟩ : ∃ rb ro, ra = some ⟨rb, ro, none⟩ ∧ RAt 1 oC w rb ro rs := by
      rcases hr with hr | hr
      · rw [hr] at hle; simp at hle; omega
      · exact hr
    have hTB : TrB rb ro rs.length (RB rs) w := ⟨hrow2.1, fun j hj => by
      have := hrow2.2 j (by omega) 0 (by omega)
      rw [Nat.mul_one, Nat.add_zero] at this
      rw [this]
      simp [oC, RB, List.getElem?_eq_getElem hj]⟩
    have hflat : (trOf l).flat.length = l.length := by rw [← t2]
    have HC := hide (fun (u : Value) (w2 : World) (hb : Below w.heap.size w w2) (hT : TV w2 (fun g => w.heap.size ≤ g) (trOf l) 0 u) => sCode_any rb ro rs.length rc (RB rs) (trOf l) u (.slice none 0 0) w.heap.size 0 0 0 [] _ w2 t1 (fun g _ _ e => by cases e) (fun e => by cases e) (hTB.at hb.size (hb.block rb hTB.1)) (by omega) (by omega) (by omega) hb.size hT (World.ownsRow_nil _ _ _ _))
    have e0 : ((0 : Nat) : Int) = 0 := rfl
    rw [← e1, ← e2] at HC
    simp only [e0, Nat.zero_add, List.nil_append, hle] at HC
    obtain ⟨CL, hCL⟩ : ∃ CL, CL = cbL l rs := ⟨_, rfl⟩
    obtain ⟨CN, hCN⟩ : ∃ CN, CN = cbN l rs := ⟨_, rfl⟩
    obtain ⟨T, hTe⟩ : ∃ T, T = trOf l := ⟨_, rfl⟩
    rw [← hTe] at HT HC
    rw [← hCL, ← hCN] at HC
    rw [← hCL, ← hCN, hle]
    clear hok h hr e1 e2 hg t1 t2 t3 t4 hTe hrow2 hTB hflat hCL hCN e0
    go_enter Try.func22, Try.ntmps22
    go_wp2_with fail
    refine HT.out.mono ?_
    rintro e w1 ⟨hb1, v, rfl, hv⟩
    have HV := hide hv
    obtain ⟨ad1, l1, c1, rfl⟩ := hv.form
    have HB1 := hide hb1
    clear hv hb1 HT
    go_wp2_with fail
    have hbA : Below w.heap.size w (w1.alloc (.cells #[.int .i64 T.x.k, .int .i64 T.x.n, .int .i64 0, .slice ad1 l1 c1] 51)) := HB1.out.alloc HB1.out.size _
    have HBA := hide hbA
    have hTV : TV w1 (fun g => w.heap.size ≤ g) T 0 (.agg #[.int .i64 T.x.k, .int .i64 T.x.n, .int .i64 0, .slice ad1 l1 c1]) := HV.out
    refine (HC.out _ _ hbA (hTV.below ((Below.refl _ _).alloc (Nat.le_refl _) _))).mono ?_
    rintro e w2 ⟨v2, rfl, ho, hg, -⟩
    have HO := hide ho
    have HB2 := hide (HBA.out.grown hg HBA.out.size (fun k hk => by cases hk))
    obtain ⟨a2, c2, rfl⟩ := own_form ho
    clear ho hg hTV hbA HC
    go_wp2_with fail
    exact bodyPost_ret (v := .tuple #[.slice a2 CL.length c2, .int .i64 (CN : Int), .bool true]) (by simp [results, Try.results22, go_sem]) rfl ⟨_, rfl, HO.out, HB2.out⟩
end Go.Proofs.Ytiphcjbmoekkkaa.L

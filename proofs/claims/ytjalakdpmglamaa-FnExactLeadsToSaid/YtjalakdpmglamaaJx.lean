/-
  Some texts of this proof in one: WkTeJ, WkTeL.
-/
import Derived.Test.YtjalakdpmglamaaJm
import Derived.Test.YtjalakdpmglamaaJt
import Derived.Test.YtjalakdpmglamaaJw
import Derived.Test.YtjalakdpmglamaaJn
/-
  TeJ for terms whose variables may be up to 900000 (written by build/weak.py).
-/
namespace Go.Proofs.Ytjalakdpmglamaa.V
open Go.Proofs.Ytjalakdpmglamaa.W
open Go.ChangeShapes Go.WideShapes Go.ChangeAt Go.RowKit
set_option linter.unusedVariables false

set_option maxRecDepth 20000 in
set_option maxHeartbeats 1000000 in
theorem chgMoved (by_ : Nat) (hb : by_ ≤ 1048576) (bb : Nat) : ChgOK (σ := Unit) 53 #[.pointer (some ⟨bb, 0, none⟩)] bb (mvO (by_ : Int) bb) (mvV (by_ : Int)) mvB := by
  intro s n d w h0 h1 hd hcb hinv
  have hbb : w.heap[bb]? = some (inO (by_ : Int)) := hinv.get
  show Calls Try.prog 53 #[.agg #[.int .i64 n], .int .i64 (d : Int), .pointer (some ⟨bb, 0, none⟩)] w _
  have hcell : w.cell? ⟨bb, 0, none⟩ = some (.int .i64 (by_ : Int)) := (cell_of_blk hbb 0).trans rfl
  have HB := hide hbb
  clear hbb hinv
  by_cases hlow : n < (d : Int)
  · have e1 : mvV (by_ : Int) s n d = .cons ⟨1, n⟩ .nil .nil := by unfold mvV shV; rw [if_pos (by omega)]
    rw [e1]
    clear e1
    go_enter Try.func53, Try.ntmps53
    go_wp2_with fail
    go_ret
    exact ⟨rfl, Inv.blk ((heap_alloc_old _ _ hcb).trans HB.out), Oth.alloc1 _ _ _⟩
  · have e1 : mvV (by_ : Int) s n d = .cons ⟨1, n + (by_ : Int)⟩ .nil .nil := by unfold mvV shV; rw [if_neg (by omega)]
    rw [e1]
    clear e1
    go_enter Try.func53, Try.ntmps53
    go_wp2_with fail
    go_ret
    exact ⟨rfl, Inv.blk ((heap_alloc_old _ _ hcb).trans HB.out), Oth.alloc1 _ _ _⟩

theorem moved_tree (by_ : Int) : ∀ (a : F) (pk : Int) (d i : Nat), a.okw → (wv (mvV by_) mvB pk d i a ()).1 = shf by_ pk d i a
  | .nil, _, _, _, _ => rfl
  | .cons x k r, pk, d, i, h => by
    obtain ⟨g1, l1, o1, r1⟩ := ok_cons h
    by_cases hx : x.k = 1
    · have hk0 : k = .nil := F.len_0 (by rw [l1, hx]; rfl)
      simp only [wv, hx, if_true, shf]
      rw [show mvB () x.n (d + binds pk i) = () from rfl, moved_tree by_ r pk d (i + 1) r1, hk0]
      show F.cons _ .nil _ = _
      congr 1
      obtain ⟨xk, xn⟩ := x
      simp only at hx
      subst hx
      unfold shc
      by_cases hd : xn - ((d + binds pk i : Nat) : Int) < ((0 : Nat) : Int)
      · rw [if_pos hd, if_neg (by simp; omega)]
      · rw [if_neg hd, if_pos (by simp; omega)]
    · simp only [wv, hx, if_false, shf]
      rw [moved_tree by_ k x.k (d + binds pk i) 0 o1]
      rw [moved_tree by_ r pk d (i + 1) r1]
      have : shc by_ (d + binds pk i) x = x := if_neg (fun hc => hx hc.1)
      rw [this]

set_option maxRecDepth 20000 in
set_option maxHeartbeats 1000000 in
theorem movedOut_some (x : Cc) (k : F) (d : Nat) (hd0 : ¬ d = 0) (hd : d ≤ 1048576) (hg : goodC x = true) (hk : k.len = ar x.k) (hko : k.okw) (hkf : k.flat.length ≤ 1048576) (w : World) :
    Calls Try.prog 51 #[pvT (.cons x k .nil), .int .i64 (d : Int)] w fun e w' => e = .returned (pvT (.cons (shc (d : Int) 0 x) (shf (d : Int) x.k 0 0 k) .nil)) ∧ Below w.heap.size w w' := by
  have hwv := withVariables_any (σ := Unit) 53 #[.pointer (some ⟨w.heap.size, 0, none⟩)] w.heap.size (mvO (d : Int) w.heap.size) (mvV (d : Int)) mvB fnMoved (chgMoved d hd w.heap.size) (fun _ _ _ => rfl) k x () 0 hg hk hko (by omega)
  have hpt : pvT (.cons x k .nil) = pv x.k x.n (pvs k) := rfl
  rw [← hpt] at hwv
  have hst1 : (W.w1 (mvV (d : Int)) mvB 0 x k ()).1 = .cons (shc (d : Int) 0 x) (shf (d : Int) x.k 0 0 k) .nil := by
    unfold W.w1
    rw [moved_tree (d : Int) (.cons x k .nil) 0 0 0 (show goodC x = true ∧ k.len = ar x.k ∧ k.okw ∧ F.nil.okw from ⟨hg, hk, hko, trivial⟩)]
    simp [shf, binds_0]
  unfold WVC at hwv
  rw [hst1] at hwv
  obtain ⟨T, u, hV⟩ := pvT_iface (a := F.cons (shc (d : Int) 0 x) (shf (d : Int) x.k 0 0 k) .nil) rfl
  obtain ⟨T0, u0, hV0⟩ := pvT_iface (a := .cons x k .nil) rfl
  rw [hV] at hwv ⊢
  rw [hV0] at hwv ⊢
  rw [show ((0 : Nat) : Int) = 0 from rfl] at hwv
  have HWV := hide hwv
  clear hwv hpt hst1 hV hV0
  have hd0' : ¬ (d : Int) = 0 := by omega
  go_enter Try.func51, Try.ntmps51
  go_wp2_with fail
  refine Calls.mono (HWV.out _ (by simp) (Inv.blk (heap_alloc_new w _))) ?_
  rintro e w1 ⟨rfl, hi1, ho1⟩
  have hB1 : Below w.heap.size w w1 := ((Below.refl _ _).alloc (Nat.le_refl _) _).trans (ho1.below (by simp) (by omega))
  clear hi1 ho1
  go_wp2_with fail
  go_ret
  exact ⟨rfl, hB1⟩

set_option maxHeartbeats 1000000 in
theorem movedOut_any (x : Cc) (k : F) (d : Nat) (hd : d ≤ 1048576) (hg : goodC x = true) (hk : k.len = ar x.k) (hko : k.okw) (hkf : k.flat.length ≤ 1048576) (w : World) :
    Calls Try.prog 51 #[pvT (.cons x k .nil), .int .i64 (d : Int)] w fun e w' => e = .returned (pvT (.cons (shc (d : Int) 0 x) (shf (d : Int) x.k 0 0 k) .nil)) ∧ Below w.heap.size w w' := by
  by_cases hd0 : d = 0
  · subst hd0
    rw [show ((0 : Nat) : Int) = 0 from rfl, shc_zero, shf_zero]
    obtain ⟨T0, u0, hV0⟩ := pvT_iface (a := .cons x k .nil) rfl
    rw [hV0]
    clear hV0 hg hk hko hkf hd
    go_enter Try.func51, Try.ntmps51
    go_wp2_with fail
    go_ret
    exact ⟨rfl, (Below.refl _ _).alloc (Nat.le_refl _) _⟩
  · exact movedOut_some x k d hd0 hd hg hk hko hkf w

set_option maxRecDepth 20000 in
set_option maxHeartbeats 2000000 in
theorem chgSubst (K LS : Nat) (hK : K ≤ 99) (hLS : LS ≤ 600) (sad : Option Addr) (sc : Nat) (sx : Cc) (sk : F) (hg : goodC sx = true) (hsk : sk.len = ar sx.k) (hsko : sk.okw) (hskf : sk.flat.length ≤ 1048576) (kb zb sb pb : Nat) (hkz : kb ≠ zb) (hsz : sb ≠ zb) (hpz : pb ≠ zb) :
    ChgOK (σ := Int) 50 #[.pointer (some ⟨kb, 0, none⟩), .pointer (some ⟨zb, 0, none⟩), .pointer (some ⟨sb, 0, none⟩), .pointer (some ⟨pb, 0, none⟩)] zb (sbO K (.slice sad LS sc) (pvT (.cons sx sk .nil)) kb zb sb pb) (sbV K LS sx sk) (sbB K LS) := by
  intro z n d w h0 h1 hd hcb hinv
  obtain ⟨hb, hbk, hbs, hbp⟩ := hinv.get
  show Calls Try.prog 50 #[.agg #[.int .i64 n], .int .i64 (d : Int), .pointer (some ⟨kb, 0, none⟩), .pointer (some ⟨zb, 0, none⟩), .pointer (some ⟨sb, 0, none⟩), .pointer (some ⟨pb, 0, none⟩)] w _
  have HMV := hide (movedOut_any sx sk d hd hg hsk hsko hskf)
  obtain ⟨T0, u0, hV0⟩ := pvT_iface (a := .cons sx sk .nil) rfl
  rw [hV0] at hbp HMV ⊢
  clear hV0
  have hcell : w.cell? ⟨zb, 0, none⟩ = some (.int .i64 z) := (cell_of_blk hb 0).trans rfl
  have hfz : w.frozen? ⟨zb, 0, none⟩ = false := unfrozen_of_blk hb 0
  have hck : w.cell? ⟨kb, 0, none⟩ = some (.int .i64 (K : Int)) := (cell_of_blk hbk 0).trans rfl
  have hcs : w.cell? ⟨sb, 0, none⟩ = some (.slice sad LS sc) := (cell_of_blk hbs 0).trans rfl
  have hcp : w.cell? ⟨pb, 0, none⟩ = some (.iface T0 u0) := (cell_of_blk hbp 0).trans rfl
  have hlk : kb < w.heap.size := (Array.getElem?_eq_some_iff.1 hbk).1
  have hls : sb < w.heap.size := (Array.getElem?_eq_some_iff.1 hbs).1
  have hlp : pb < w.heap.size := (Array.getElem?_eq_some_iff.1 hbp).1
  have HB := hide hb
  have HK := hide hbk
  have HS := hide hbs
  have HP := hide hbp
  clear hb hbk hbs hbp hinv hg hsk hsko hskf
  by_cases hlow : n - (d : Int) < (K : Int)
  · have e1 : sbV K LS sx sk z n d = .cons ⟨1, n⟩ .nil .nil := by unfold sbV; rw [if_pos hlow]
    have e2 : sbB K LS z n d = z := if_pos hlow
    rw [e1, e2]
    clear e1 e2 HMV
    go_enter Try.func50, Try.ntmps50
    go_wp2_with fail
    go_ret
    exact ⟨rfl, sbO.inv ⟨(heap_alloc_old _ _ hcb).trans HB.out, (heap_alloc_old _ _ hlk).trans HK.out, (heap_alloc_old _ _ hls).trans HS.out, (heap_alloc_old _ _ hlp).trans HP.out⟩, Oth.alloc1 _ _ _⟩
  · by_cases hhi : (K : Int) < n - (d : Int)
    · have e1 : sbV K LS sx sk z n d = .cons ⟨1, n - 1⟩ .nil .nil := by unfold sbV; rw [if_neg hlow, if_pos hhi]
      have e2 : sbB K LS z n d = z := by unfold sbB; rw [if_neg hlow, if_pos hhi]
      rw [e1, e2]
      clear e1 e2 HMV
      go_enter Try.func50, Try.ntmps50
      go_wp2_with fail
      go_ret
      exact ⟨rfl, sbO.inv ⟨(heap_alloc_old _ _ hcb).trans HB.out, (heap_alloc_old _ _ hlk).trans HK.out, (heap_alloc_old _ _ hls).trans HS.out, (heap_alloc_old _ _ hlp).trans HP.out⟩, Oth.alloc1 _ _ _⟩
    · have e2 : sbB K LS z n d = IntKind.i64.wrap (z + ((LS : Int) - 1)) := by unfold sbB; rw [if_neg hlow, if_neg hhi]
      obtain ⟨Z, hZ⟩ : ∃ Z, Z = IntKind.i64.wrap (z + ((LS : Int) - 1)) := ⟨_, rfl⟩
      have hq : ∀ o : Obj, sbO K (.slice sad LS sc) (.iface T0 u0) kb zb sb pb Z ((w.setCell ⟨zb, 0, none⟩ (.int .i64 Z)).alloc o) := fun o => by
        refine ⟨?_, ?_, ?_, ?_⟩
        · rw [heap_alloc_old _ _ (by simp [World.setCell]; exact hcb), blk_setCell HB.out]; rfl
        · rw [heap_alloc_old _ _ (by simp [World.setCell]; exact hlk), Below.heap_setCell _ _ _ _ hkz]; exact HK.out
        · rw [heap_alloc_old _ _ (by simp [World.setCell]; exact hls), Below.heap_setCell _ _ _ _ hsz]; exact HS.out
        · rw [heap_alloc_old _ _ (by simp [World.setCell]; exact hlp), Below.heap_setCell _ _ _ _ hpz]; exact HP.out
      have HQ := hide hq
      have HOt : Hid (∀ o : Obj, Oth zb w ((w.setCell ⟨zb, 0, none⟩ (.int .i64 Z)).alloc o)) := hide (fun o => ((Oth.refl zb w).setCell 0 _).trans (Oth.alloc1 _ _ _))
      clear hq
      by_cases hbig : 600 < Z
      · have e1 : sbV K LS sx sk z n d = .cons ⟨1, n⟩ .nil .nil := by unfold sbV; rw [if_neg hlow, if_neg hhi, if_pos (by rw [← hZ]; exact hbig)]
        rw [e1, e2, ← hZ]
        clear e1 e2 HMV
        have hZ' := hZ.symm
        clear hZ
        go_enter Try.func50, Try.ntmps50
        go_wp2_with fail
        go_ret
        exact ⟨rfl, sbO.inv (HQ.out _), HOt.out _⟩
      · have e1 : sbV K LS sx sk z n d = .cons (shc (d : Int) 0 sx) (shf (d : Int) sx.k 0 0 sk) .nil := by unfold sbV; rw [if_neg hlow, if_neg hhi, if_neg (by rw [← hZ]; exact hbig)]
        rw [e1, e2, ← hZ]
        clear e1 e2
        have hZ' := hZ.symm
        clear hZ
        go_enter Try.func50, Try.ntmps50
        go_wp2_with fail
        refine Calls.mono (HMV.out _) ?_
        rintro e w1 ⟨rfl, hb1⟩
        have HI1 := hide (sbO.inv (c := zb) (HQ.out (.cells #[.int .i64 n] 84)))
        have HI2 : Hid (Inv zb (sbO K (.slice sad LS sc) (.iface T0 u0) kb zb sb pb Z) w1) := hide (fun w' h1 h2 => HI1.out w' (Nat.le_trans hb1.size h1) (fun k hk => (h2 k (Nat.lt_of_lt_of_le hk hb1.size)).trans (hb1.block k hk)))
        have HO2 : Hid (Oth zb w w1) := hide ((HOt.out (.cells #[.int .i64 n] 84)).trans (Oth.ofBelow hb1))
        obtain ⟨T1, u1, hV1⟩ := pvT_iface (a := F.cons (shc (d : Int) 0 sx) (shf (d : Int) sx.k 0 0 sk) .nil) rfl
        rw [hV1]
        have HV1 := hide hV1
        clear hV1 hb1 HI1
        go_wp2_with fail
        go_ret
        exact ⟨by rw [HV1.out]; rfl, HI2.out, HO2.out⟩
end Go.Proofs.Ytjalakdpmglamaa.V

/-
  TeL for terms whose variables may be up to 900000 (written by build/weak.py).
-/
namespace Go.Proofs.Ytjalakdpmglamaa.V
open Go.Proofs.Ytjalakdpmglamaa.W
open Go.ChangeShapes Go.WideShapes Go.ChangeAt Go.RowKit
set_option linter.unusedVariables false

set_option maxRecDepth 20000 in
theorem subst_size (K LS L1 : Nat) (sx : Cc) (sk : F) (hL : (LS : Int) - 1 = (L1 : Int)) (hL1 : L1 ≤ 599) : ∀ (a : F) (pk : Int) (d i : Nat) (z : Int), a.okw → 0 ≤ z → z + ((a.flat.length * 599 : Nat) : Int) ≤ 1000000000 →
    (wv (sbV K LS sx sk) (sbB K LS) pk d i a z).2 = z + ((usf (K + d) pk i a * L1 : Nat) : Int)
  | .nil, _, _, _, z, _, _, _ => by simp [wv, usf]
  | .cons x k r, pk, d, i, z, h, hz, hb => by
    obtain ⟨g1, l1, o1, r1⟩ := ok_cons h
    have hfl : (F.cons x k r).flat.length = 1 + k.flat.length + r.flat.length := by simp [F.flat]; omega
    rw [hfl] at hb
    rw [usf_cons, us_mul, Nat.add_assoc K d (binds pk i)]
    by_cases hx : x.k = 1
    · have hk0 : k = .nil := F.len_0 (by rw [l1, hx]; rfl)
      simp only [wv, hx, if_true]
      by_cases he : x.n = ((K + (d + binds pk i) : Nat) : Int)
      · have hu : us1 (K + (d + binds pk i)) x k = 1 := if_pos ⟨hx, he⟩
        have hs : sbB K LS z x.n (d + binds pk i) = z + (L1 : Int) := by
          unfold sbB
          rw [if_neg (by omega), if_neg (by omega), hL, IntWalk.i64_in _ ⟨by omega, by omega⟩]
        rw [hs, hu, subst_size K LS L1 sx sk hL hL1 r pk d (i + 1) _ r1 (by omega) (by omega)]
        omega
      · have hu : us1 (K + (d + binds pk i)) x k = 0 := by unfold us1; rw [if_neg (fun hc => he hc.2), hk0]; rfl
        have hs : sbB K LS z x.n (d + binds pk i) = z := by
          unfold sbB
          split
          · rfl
          · rw [if_pos (by omega)]
        rw [hs, hu, subst_size K LS L1 sx sk hL hL1 r pk d (i + 1) _ r1 hz (by omega)]
        omega
    · have hu : us1 (K + (d + binds pk i)) x k = usf (K + (d + binds pk i)) x.k 0 k := if_neg (fun hc => hx hc.1)
      have hul := usf_le k x.k (K + (d + binds pk i)) 0
      have hm : usf (K + (d + binds pk i)) x.k 0 k * L1 ≤ k.flat.length * 599 := Nat.mul_le_mul hul hL1
      simp only [wv, hx, if_false]
      rw [subst_size K LS L1 sx sk hL hL1 k x.k (d + binds pk i) 0 z o1 hz (by omega), hu, subst_size K LS L1 sx sk hL hL1 r pk d (i + 1) _ r1 (by omega) (by omega)]
      omega
set_option maxRecDepth 20000 in
theorem subst_tree (K LS L1 : Nat) (sx : Cc) (sk : F) (hL : (LS : Int) - 1 = (L1 : Int)) (hL1 : L1 ≤ 599) : ∀ (a : F) (pk : Int) (d i : Nat) (z : Int), a.okw → 0 ≤ z → z + ((a.flat.length * 599 : Nat) : Int) ≤ 1000000000 →
    z + ((usf (K + d) pk i a * L1 : Nat) : Int) ≤ 600 → (wv (sbV K LS sx sk) (sbB K LS) pk d i a z).1 = sbf K sx sk pk d i a
  | .nil, _, _, _, z, _, _, _, _ => rfl
  | .cons x k r, pk, d, i, z, h, hz, hb, h6 => by
    obtain ⟨g1, l1, o1, r1⟩ := ok_cons h
    have hfl : (F.cons x k r).flat.length = 1 + k.flat.length + r.flat.length := by simp [F.flat]; omega
    rw [hfl] at hb
    rw [usf_cons, us_mul, Nat.add_assoc K d (binds pk i)] at h6
    rw [sbf_cons]
    by_cases hx : x.k = 1
    · have hk0 : k = .nil := F.len_0 (by rw [l1, hx]; rfl)
      simp only [wv, hx, if_true]
      by_cases he : x.n = ((K + (d + binds pk i) : Nat) : Int)
      · have hu : us1 (K + (d + binds pk i)) x k = 1 := if_pos ⟨hx, he⟩
        have hs : sbB K LS z x.n (d + binds pk i) = z + (L1 : Int) := by
          unfold sbB
          rw [if_neg (by omega), if_neg (by omega), hL, IntWalk.i64_in _ ⟨by omega, by omega⟩]
        rw [hu] at h6
        have hg : sbV K LS sx sk z x.n (d + binds pk i) = .cons (shc ((d + binds pk i : Nat) : Int) 0 sx) (shf ((d + binds pk i : Nat) : Int) sx.k 0 0 sk) .nil := by
          unfold sbV
          rw [if_neg (by omega), if_neg (by omega), hL, IntWalk.i64_in _ ⟨by omega, by omega⟩, if_neg (by omega)]
        rw [hs, hg, subst_tree K LS L1 sx sk hL hL1 r pk d (i + 1) _ r1 (by omega) (by omega) (by omega)]
        show F.cons _ _ _ = _
        congr 1
        · unfold sbr; rw [if_pos hx, if_pos (by rw [he]; omega)]
        · unfold sbk; rw [if_pos hx, if_pos (by rw [he]; omega)]
      · have hu : us1 (K + (d + binds pk i)) x k = 0 := by unfold us1; rw [if_neg (fun hc => he hc.2), hk0]; rfl
        have hs : sbB K LS z x.n (d + binds pk i) = z := by
          unfold sbB
          split
          · rfl
          · rw [if_pos (by omega)]
        rw [hu] at h6
        rw [hs, subst_tree K LS L1 sx sk hL hL1 r pk d (i + 1) _ r1 hz (by omega) (by omega)]
        have hkz : sbk K sx sk (d + binds pk i) x k = .nil := by unfold sbk; rw [if_pos hx, if_neg (by intro hc; apply he; rw [hc]; omega)]
        rw [hkz]
        by_cases hlow : x.n - ((d + binds pk i : Nat) : Int) < (K : Int)
        · have hg : sbV K LS sx sk z x.n (d + binds pk i) = .cons ⟨1, x.n⟩ .nil .nil := by unfold sbV; rw [if_pos hlow]
          rw [hg]
          show F.cons _ _ _ = _
          congr 1
          unfold sbr
          rw [if_pos hx, if_neg (by omega), if_neg (by omega)]
          obtain ⟨xk, xn⟩ := x
          simp only at hx
          rw [hx]
        · have hhi : (K : Int) < x.n - ((d + binds pk i : Nat) : Int) := by omega
          have hg : sbV K LS sx sk z x.n (d + binds pk i) = .cons ⟨1, x.n - 1⟩ .nil .nil := by unfold sbV; rw [if_neg hlow, if_pos hhi]
          rw [hg]
          show F.cons _ _ _ = _
          congr 1
          unfold sbr
          rw [if_pos hx, if_neg (by omega), if_pos (by omega)]
    · have hu : us1 (K + (d + binds pk i)) x k = usf (K + (d + binds pk i)) x.k 0 k := if_neg (fun hc => hx hc.1)
      have hul := usf_le k x.k (K + (d + binds pk i)) 0
      have hm : usf (K + (d + binds pk i)) x.k 0 k * L1 ≤ k.flat.length * 599 := Nat.mul_le_mul hul hL1
      rw [hu] at h6
      simp only [wv, hx, if_false]
      rw [subst_tree K LS L1 sx sk hL hL1 k x.k (d + binds pk i) 0 z o1 hz (by omega) (by omega), subst_size K LS L1 sx sk hL hL1 k x.k (d + binds pk i) 0 z o1 hz (by omega), subst_tree K LS L1 sx sk hL hL1 r pk d (i + 1) _ r1 (by omega) (by omega) (by omega)]
      have e1 : sbr K sx (d + binds pk i) x = x := by unfold sbr; rw [if_neg hx]
      have e2 : sbk K sx sk (d + binds pk i) x k = sbf K sx sk x.k (d + binds pk i) 0 k := by unfold sbk; rw [if_neg hx]
      rw [e1, e2]
end Go.Proofs.Ytjalakdpmglamaa.V

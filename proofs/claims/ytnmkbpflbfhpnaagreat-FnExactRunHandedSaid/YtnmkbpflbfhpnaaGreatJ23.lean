/-
  Some texts of this proof in one: MaR3, MaR4, MaR7.
-/
import Derived.Test.YtnmkbpflbfhpnaaGreatJ21
import Derived.Deep.RegionHeld3
import Derived.Deep.RegionLaw
import Derived.Deep.AppendLies
import Derived.Deep.CutRange
import Derived.Test.YtnmkbpflbfhpnaaGreatJ22
/-
  Contracts of cell, partNo, cameTo and boundTo. Conditions: places, bindings and values that are there.
-/
namespace Go.Proofs.YtnmkbpflbfhpnaaGreat.W
open Go.ChangeShapes Go.WideShapes Go.ChangeAt Go.RowKit
set_option linter.unusedVariables false

theorem fieldCell : ∀ (a b : Int) (w : World), (Instr.field 46 (.agg #[.int .i64 a, .int .i64 b]) 0).run Tryz.prog w = .ok (.int .i64 a) w := fun _ _ _ => by kernel_rfl
theorem fieldVal : ∀ (d : Bool) (a b c : Int) (w : World), (Instr.field 69 (.agg #[.bool d, .int .i64 a, .int .i64 b, .int .i64 c]) 0).run Tryz.prog w = .ok (.bool d) w := fun _ _ _ _ _ => by kernel_rfl

set_option maxHeartbeats 1000000 in
theorem taskCell_any (ad : Option Addr) (c : Nat) (l : List Cc) (p : Nat) (e : Int) (w : World) (h : CRow w ad l) (hp : p < l.length) (hl : l.length ≤ 1048576) :
    Calls Tryz.prog 74 #[.agg #[.slice ad l.length c, .int .i64 (p : Int), .int .i64 e]] w fun r w' => r = .returned (.agg #[.int .i64 l[p].k, .int .i64 l[p].n]) ∧ Below w.heap.size w w' := by
  obtain ⟨b, o, rfl, hb, q0, q1⟩ := h.tok (Below.refl _ _) hp
  have hp' : (p : Int) < (l.length : Int) := by omega
  have hp0 : (0 : Int) ≤ (p : Int) := by omega
  obtain ⟨x, hx⟩ : ∃ x, x = l[p] := ⟨_, rfl⟩
  rw [← hx] at q0 q1 ⊢
  clear hx h
  have a0 : ((w.alloc (.cells #[.slice (some ⟨b, o, none⟩) l.length c, .int .i64 (p : Int), .int .i64 e] 136)).alloc (.cells #[.int .i64 0, .int .i64 0] 46)).cell? ⟨b, o + p * 2, none⟩ = some (.int .i64 x.k) := by rw [World.cell?_alloc_some _ _ _ (by rw [World.cell?_alloc_some _ _ _ (by rw [q0]; rfl), q0]; rfl), World.cell?_alloc_some _ _ _ (by rw [q0]; rfl)]; exact q0
  have a1 : ((w.alloc (.cells #[.slice (some ⟨b, o, none⟩) l.length c, .int .i64 (p : Int), .int .i64 e] 136)).alloc (.cells #[.int .i64 0, .int .i64 0] 46)).cell? ⟨b, o + p * 2 + 1, none⟩ = some (.int .i64 x.n) := by rw [World.cell?_alloc_some _ _ _ (by rw [World.cell?_alloc_some _ _ _ (by rw [q1]; rfl), q1]; rfl), World.cell?_alloc_some _ _ _ (by rw [q1]; rfl)]; exact q1
  go_enter Tryz.func74, Tryz.ntmps74
  go_wp2_with fail
  exact bodyPost_ret (v := .agg #[.int .i64 x.k, .int .i64 x.n]) (by simp [results, Tryz.results74, go_sem]) rfl ⟨rfl, ((Below.refl _ _).alloc (Nat.le_refl _) _).alloc (by simp) _⟩

set_option maxHeartbeats 1000000 in
theorem cameTo_any (d : Bool) (p e : Int) (x : Nat) (sf sb : Value) (av : Option Addr) (cv : Nat) (vs : List Vl) (w : World) (h : VlRow w av vs) (hx : x < vs.length) (hl : vs.length ≤ 1048576) :
    Calls Tryz.prog 25 #[.agg #[.bool d, .int .i64 p, .int .i64 e, .int .i64 (x : Int), sf, .slice av vs.length cv, sb]] w fun r w' => r = .returned vs[x].v ∧ Below w.heap.size w w' := by
  obtain ⟨b, o, rfl, hb, q0, q1, q2, q3⟩ := VlRow.tok h (Below.refl _ _) hx
  have hp' : (x : Int) < (vs.length : Int) := by omega
  have hp0 : (0 : Int) ≤ (x : Int) := by omega
  obtain ⟨y, hy⟩ : ∃ y, y = vs[x] := ⟨_, rfl⟩
  rw [← hy] at q0 q1 q2 q3 ⊢
  clear hy h
  have aa : ∀ i v (o1 o2 : Obj), w.cell? ⟨b, i, none⟩ = some v → ((w.alloc o1).alloc o2).cell? ⟨b, i, none⟩ = some v := fun i v o1 o2 hv => by rw [World.cell?_alloc_some _ _ _ (by rw [World.cell?_alloc_some _ _ _ (by rw [hv]; rfl), hv]; rfl), World.cell?_alloc_some _ _ _ (by rw [hv]; rfl)]; exact hv
  have a0 := fun o1 o2 => aa _ _ o1 o2 q0
  have a1 := fun o1 o2 => aa _ _ o1 o2 q1
  have a2 := fun o1 o2 => aa _ _ o1 o2 q2
  have a3 := fun o1 o2 => aa _ _ o1 o2 q3
  clear aa
  go_enter Tryz.func25, Tryz.ntmps25
  go_wp2_with fail
  exact bodyPost_ret (v := y.v) (by simp [results, Tryz.results25, go_sem]) rfl ⟨rfl, ((Below.refl _ _).alloc (Nat.le_refl _) _).alloc (by simp) _⟩

set_option maxHeartbeats 1000000 in
theorem boundTo_any (d : Bool) (p e x : Int) (sf sv : Value) (ab : Option Addr) (cb nv : Nat) (bs : List Bd) (env : Int) (n : Nat) (w : World) (h : BdRow w ab bs) (hb : bsOk nv bs = true) (he : -1 ≤ env ∧ env < bs.length) (hn : (n : Int) < (bw bs env).1) (hl : bs.length ≤ 1048576) :
    Calls Tryz.prog 76 #[.agg #[.bool d, .int .i64 p, .int .i64 e, .int .i64 x, sf, sv, .slice ab bs.length cb], .int .i64 env, .int .i64 (n : Int)] w fun r w' => r = .returned (.int .i64 (lkB bs n env)) ∧ Below w.heap.size w w' := by
  have HR := hide h
  have HB := hide hb
  have HN : Hid (n ≤ 1048576) := hide (by have := bw_bound hb (env.toNat + 1) env he.1 (by omega) he.2; omega)
  have hn6 := HN.out
  clear h hb HN
  go_enter Tryz.func76, Tryz.ntmps76
  go_wp2_with fail
  have hX := Bx.new w #[.bool d, .int .i64 p, .int .i64 e, .int .i64 x, sf, sv, .slice ab bs.length cb] 61
  have hB0 : Below w.heap.size w (w.alloc (.cells #[.bool d, .int .i64 p, .int .i64 e, .int .i64 x, sf, sv, .slice ab bs.length cb] 61)) := (Below.refl _ _).alloc (Nat.le_refl _) _
  obtain ⟨w0, hw0⟩ : ∃ w0, w0 = w.alloc (.cells #[.bool d, .int .i64 p, .int .i64 e, .int .i64 x, sf, sv, .slice ab bs.length cb] 61) := ⟨_, rfl⟩
  rw [← hw0] at hX hB0 ⊢
  have hcx := hX.c
  clear hw0 hX
  go_loopw [1, 8] (fun ev i w' => ∃ (j : Nat) (en : Int), j ≤ n ∧ i = .int .i64 (j : Int) ∧ ev = .int .i64 en ∧ -1 ≤ en ∧ en < bs.length ∧ ((n - j : Nat) : Int) < (bw bs en).1 ∧ lkB bs (n - j) en = lkB bs n env ∧ w' = w0) (fun _ i _ => n - (intOf i).toNat)
  case atStart => exact ⟨0, env, by omega, rfl, rfl, he.1, he.2, by simpa using hn, by simp, rfl⟩
  case round =>
    obtain ⟨j, en, hj, rfl, rfl, e1, e2, e3, e4, rfl⟩ := hrel
    have e5 := (lkB_ok HB.out (n - j) en e2 e3).2.2
    obtain ⟨k, rfl⟩ := Int.eq_ofNat_of_zero_le e5
    have hk : k < bs.length := by omega
    have hk' : (k : Int) < (bs.length : Int) := by omega
    obtain ⟨b, o, rfl, hb, q0, q1⟩ := BdRow.tok HR.out hB0 hk
    have E4 := hide e4
    have E3 := hide e3
    have hbk := bsOk_at HB.out hk
    have HS := hide (bw_step HB.out hk)
    have HL0 : Hid (lkB bs 0 (k : Int) = bs[k].val) := hide (by unfold lkB; rw [Int.toNat_natCast, List.getElem?_eq_getElem hk])
    have HL1 : Hid (∀ i, lkB bs (i + 1) (k : Int) = lkB bs i bs[k].up) := hide (fun i => by rw [lkB, Int.toNat_natCast, List.getElem?_eq_getElem hk])
    obtain ⟨y, hy⟩ : ∃ y, y = bs[k] := ⟨_, rfl⟩
    rw [← hy] at q0 q1 hbk HS HL0 HL1
    clear hy e4 e3
    by_cases hlt : j < n
    · have hlt' : (j : Int) < (n : Int) := by omega
      clear q0
      go_wp2_with fail
      have h3 := E3.out
      rw [HS.out] at h3
      simp only at h3
      refine ⟨⟨j + 1, y.up, by omega, by go_num, rfl, by omega, by omega, by omega, ?_, trivial⟩, by simp [intOf]; omega⟩
      rw [← E4.out, show n - j = (n - (j + 1)) + 1 by omega, HL1.out]
    · obtain rfl : j = n := by omega
      clear q1
      go_wp2_with fail
      go_ret
      have h4 := E4.out
      rw [Nat.sub_self, HL0.out] at h4
      exact ⟨ret_int h4, hB0⟩
end Go.Proofs.YtnmkbpflbfhpnaaGreat.W

/-
  Contracts of partNo and lastFrame. Conditions: a place of a closed term; there is a frame.
-/
namespace Go.Proofs.YtnmkbpflbfhpnaaGreat.W
open Go.ChangeShapes Go.WideShapes Go.ChangeAt Go.RowKit
set_option linter.unusedVariables false

theorem CRow.at' {w : World} {ad : Option Addr} {l : List Cc} (h : CRow w ad l) (hp : 0 < l.length) : ∃ b o, ad = some ⟨b, o, none⟩ ∧ CRowAt w b o l := by
  rcases h with rfl | h
  · simp at hp
  · exact h

set_option maxRecDepth 20000 in
set_option maxHeartbeats 2000000 in
theorem partNo_any (ad : Option Addr) (c : Nat) (l : List Cc) (a : F) (p : Nat) (e : Int) (j : Nat) (x : Cc) (d : Nat) (k : F) (w : World) (hCl : Cl l a) (hn : (ndT a)[p]? = some (x, d, k)) (hj : j < ar x.k) (hc : l.length ≤ c) (hc2 : c ≤ maxLen) (h : CRow w ad l) :
    Calls Tryz.prog 79 #[.agg #[.slice ad l.length c, .int .i64 (p : Int), .int .i64 e], .int .i64 (j : Int)] w fun r w' => r = .returned (.agg #[.slice ad l.length c, .int .i64 (kp a p j), .int .i64 e]) ∧ Below w.heap.size w w' := by
  have hle := hCl.le
  obtain ⟨hp, hpx⟩ := hCl.cell hn
  obtain ⟨gx, gl, go, ge⟩ := hCl.good hn
  obtain ⟨hz, -, -⟩ := hCl.size hn
  obtain ⟨b, o, rfl, hA⟩ := h.at' (by omega)
  have hkp : kp a p j = ((p + 1 + ko k j : Nat) : Int) := by unfold kp; rw [Int.toNat_natCast, hn]; simp
  obtain ⟨KP, hKP⟩ : ∃ KP, KP = kp a p j := ⟨_, rfl⟩
  rw [← hKP]
  have HKP := hide (hKP.trans hkp)
  have har := ar_le x.k
  have HA := hide hA
  have hc3 : (c : Int) ≤ 9223372036854775807 := by unfold maxLen at hc2; omega
  have HC := hide (fun (i : Nat) (hi : i < k.len) => (fun (w' : World) (hb : Below w.heap.size w w') => (show ∃ n, (p + 1 + ko k i + n = p + 1 + ko k (i + 1)) ∧ p + 1 + ko k i + n ≤ l.length ∧ p + 1 + ko k i < l.length ∧ Calls Tryz.prog 105 #[.slice (some ⟨b, o + (p + 1 + ko k i) * 2, none⟩) (l.length - (p + 1 + ko k i)) (c - (p + 1 + ko k i))] w' fun e w2 => ∃ q, e = .returned (.tuple #[.slice (some ⟨b, o + (p + 1 + ko k i) * 2, none⟩) n (c - (p + 1 + ko k i)), .slice (some ⟨b, q, none⟩) ((l.length - (p + 1 + ko k i)) - n) ((c - (p + 1 + ko k i)) - n)]) ∧ Below w'.heap.size w' w2 from by
    obtain ⟨y, m, hy, hny⟩ := hCl.kid hn (j := i) (by omega)
    have hks := ko_succ k i y m hy
    obtain ⟨z1, z2, z3⟩ := hCl.size hny
    refine ⟨m.flat.length + 1, by omega, by omega, by omega, ?_⟩
    have := cutAhead_any b (o + (p + 1 + ko k i) * 2) (c - (p + 1 + ko k i)) (l.drop (p + 1 + ko k i)) (m.flat.length + 1) w' (by simp; omega) (by simp; omega) z2 (by simp; omega) ((hA.drop _).below hb)
    rw [List.length_drop] at this
    exact this.mono fun e w2 ⟨q, h1, _, h2⟩ => ⟨q, h1, h2⟩)))
  have HK := hide (fun i (hi : i ≤ k.len) => ko_mono k i hi)
  have hk0 := ko_0 k
  have HG := hide gl
  clear hA hn gl hpx hkp h hKP
  go_enter Tryz.func79, Tryz.ntmps79
  go_wp2_with fail
  go_loopw [12] (fun i w' => ∃ n : Nat, n ≤ j ∧ i = .int .i64 (n : Int) ∧ Bx w' w.heap.size #[.slice (some ⟨b, o, none⟩) l.length c, .int .i64 ((p + 1 + ko k n : Nat) : Int), .int .i64 e] 136 ∧ Bx w' (w.heap.size + 1) #[.slice none 0 0, .int .i64 0, .int .i64 0] 136 ∧ Below w.heap.size w w') (fun i _ => j - (intOf i).toNat)
  case atStart =>
    refine ⟨0, by omega, rfl, ?_, ?_, ((Below.refl _ _).alloc (Nat.le_refl _) _).alloc (by simp) _⟩
    · rw [hk0]
      exact (Bx.new w _ _).alloc _
    · have := Bx.new (w.alloc (.cells #[.slice (some ⟨b, o, none⟩) l.length c, .int .i64 ((p : Int) + 1), .int .i64 e] 136)) #[.slice none 0 0, .int .i64 0, .int .i64 0] 136
      simpa using this
  case round =>
    obtain ⟨n, hnj, rfl, hX, hY, hB⟩ := hrel
    have hcx := hX.c
    have hfx := hX.f
    have HX := hide hX
    have HY := hide hY
    have hxl := hX.lt
    have hyl := hY.lt
    by_cases hlt : n < j
    · have hlt' : (n : Int) < (j : Int) := by omega
      obtain ⟨s, s1, s2, s3, hcut⟩ := HC.out n (by have := HG.out; omega) wr hB
      obtain ⟨q, hq⟩ : ∃ q, q = p + 1 + ko k n := ⟨_, rfl⟩
      rw [← hq] at s1 s2 s3 hcut hcx HX
      have HS1 := hide s1
      have HCut := hide hcut
      have b1 : (q : Int) ≤ (l.length : Int) := by omega
      have b2 : (0 : Int) ≤ (q : Int) := by omega
      have b3 : (l.length : Int) ≤ (c : Int) := by omega
      have b4 : ¬ c = q := by omega
      have b5 : (s : Int) ≤ 1000 := by omega
      clear hX hY hq hcut s1
      go_wp2_with fail
      refine HCut.out.mono ?_
      rintro e' w2 ⟨q2, rfl, hb2⟩
      have HX2 := hide (HX.out.below hb2 hxl)
      have HY2 := hide (HY.out.below hb2 hyl)
      have hB2 : Below w.heap.size w w2 := hB.trans (hb2.mono hB.size)
      clear hcx hfx HX HY hb2 hB
      have hcx := HX2.out.c
      have hfx := HX2.out.f
      go_wp2_with fail
      have e1 := HS1.out
      refine ⟨⟨n + 1, by omega, by go_num, ?_, HY2.out.setne _ _ _ (by omega), bsc0 hB2 _ _⟩, by simp [intOf]; omega⟩
      have := HX2.out.set 1 (.int .i64 ((q : Int) + (s : Int)))
      rw [show ((p + 1 + ko k (n + 1) : Nat) : Int) = (q : Int) + (s : Int) by omega]
      simpa using this
    · obtain rfl : n = j := by omega
      have hcy := hY.c
      have hfy := hY.f
      clear hX hY
      rw [← HKP.out] at hcx HX
      clear HKP
      go_wp2_with fail
      refine bodyPost_ret (v := .agg #[.slice (some ⟨b, o, none⟩) l.length c, .int .i64 KP, .int .i64 e]) (by simp [results, Tryz.results79, go_sem, hcy]) rfl ⟨rfl, ?_⟩
      exact bsc (bsc (bsc hB _ _ _ (by omega)) _ _ _ (by omega)) _ _ _ (by omega)

set_option maxHeartbeats 1000000 in
theorem hasFirst_any (tv : Value) (p e v : Int) (w : World) (b : Bool) (hb : (v != -1) = b) (htv : ∃ tn ta tc, tv = .slice ta tn tc) :
    Calls Tryz.prog 83 #[.agg #[tv, .int .i64 p, .int .i64 e, .int .i64 v]] w fun r w' => r = .returned (.bool b) ∧ Below w.heap.size w w' := by
  obtain ⟨tn, ta, tc, rfl⟩ := htv
  go_enter Tryz.func83, Tryz.ntmps83
  go_wp2_with fail
  go_ret
  refine ⟨ret_bool ?_, (Below.refl _ _).alloc (Nat.le_refl _) _⟩
  first
    | exact hb
    | rw [← hb]

set_option maxHeartbeats 2000000 in
theorem lastFrame_any (rb lo : Nat) (tv : Value) (m : Mc) (w : World) (h : RB w rb lo tv m) (hn : 0 < m.fs.length) (hl : m.fs.length ≤ 500) (f : Fm) (hf : m.fs.getLast? = some f) (htv : ∃ tn ta tc, tv = .slice ta tn tc) :
    Calls Tryz.prog 80 #[.pointer (some ⟨rb, 0, none⟩)] w fun e w' => e = .returned (.agg #[tv, .int .i64 f.pl, .int .i64 f.env, .int .i64 f.val]) ∧ Below w.heap.size w w' := by
  obtain ⟨af, cf, av, cv, ab, cb, h1, h2, h3, h4, k1, k2, k3, k4⟩ := h.slots
  have hR : FmRow w af m.fs := RRow.ofOwn h2 rfl
  have hlt : m.fs.length - 1 < m.fs.length := by omega
  obtain ⟨b, o, rfl, hb, q0, q1, q2, q3⟩ := FmRow.tok hR (Below.refl _ _) hlt
  have hfe : m.fs[m.fs.length - 1] = f := by
    rw [List.getLast?_eq_getElem?] at hf
    rw [List.getElem?_eq_getElem hlt] at hf
    simpa using hf
  rw [hfe] at q0 q1 q2 q3
  have HX := hide h1
  obtain ⟨d, p, e, x, fs, vs, bs⟩ := m
  simp only at *
  obtain ⟨n, hnn⟩ : ∃ n, n = fs.length := ⟨_, rfl⟩
  obtain ⟨i, hi⟩ : ∃ i, i = fs.length - 1 := ⟨_, rfl⟩
  rw [← hi] at q0 q1 q2 q3
  rw [← hnn] at hn hl HX
  have hin : (n : Int) - 1 = (i : Int) := by omega
  have e1 : IntKind.i64.wrap ((n : Int) - 1) = (i : Int) := (IntWalk.i64_in _ ⟨by omega, by omega⟩).trans hin
  have b1 : (i : Int) < (n : Int) := by omega
  have b0 : (0 : Int) ≤ (i : Int) := by omega
  have e2 : IntKind.i64.wrap (i : Int) = (i : Int) := IntWalk.i64_in _ ⟨by omega, by omega⟩
  clear h h1 h2 h3 h4 hR hf hfe hlt hnn hi k1 k2 k3 k4
  go_enter Tryz.func80, Tryz.ntmps80
  go_wp2_with fail
  have hZ := Bx.new w #[.slice none 0 0, .int .i64 0, .int .i64 0, .int .i64 0] 145
  have hB0 : Below w.heap.size w (w.alloc (.cells #[.slice none 0 0, .int .i64 0, .int .i64 0, .int .i64 0] 145)) := (Below.refl _ _).alloc (Nat.le_refl _) _
  obtain ⟨w0, hw0⟩ : ∃ w0, w0 = w.alloc (.cells #[.slice none 0 0, .int .i64 0, .int .i64 0, .int .i64 0] 145) := ⟨_, rfl⟩
  rw [← hw0] at hZ hB0 ⊢
  have hX0 := HX.out.below hB0 HX.out.lt
  have r0 := (hB0.cell (p := ⟨b, o + i * 4, none⟩) hb).trans q0
  have r1 := (hB0.cell (p := ⟨b, o + i * 4 + 1, none⟩) hb).trans q1
  have r2 := (hB0.cell (p := ⟨b, o + i * 4 + 2, none⟩) hb).trans q2
  have r3 := (hB0.cell (p := ⟨b, o + i * 4 + 3, none⟩) hb).trans q3
  have t5 : w0.cell? ⟨rb, 5, none⟩ = some (.slice (some ⟨b, o, none⟩) n cf) := hX0.c 5
  have hrl := HX.out.lt
  have hzl := hZ.lt
  clear hw0 q0 q1 q2 q3
  go_region_held3 (fun w' => w'.cell? ⟨rb, 5, none⟩ = some (.slice (some ⟨b, o, none⟩) n cf) ∧ w'.cell? ⟨b, o + i * 4, none⟩ = some (.int .i64 f.k) ∧ w'.cell? ⟨b, o + i * 4 + 1, none⟩ = some (.int .i64 f.pl) ∧ w'.cell? ⟨b, o + i * 4 + 2, none⟩ = some (.int .i64 f.env) ∧ w'.cell? ⟨b, o + i * 4 + 3, none⟩ = some (.int .i64 f.val)) (go_keep)
    (first | fail)
  have hY1 := (Bx.new w0 #[.int .i64 f.k, .int .i64 f.pl, .int .i64 f.env, .int .i64 f.val] 141).drew
  have hZ1 := (hZ.alloc (.cells #[.int .i64 f.k, .int .i64 f.pl, .int .i64 f.env, .int .i64 f.val] 141)).drew
  have hX1 := (hX0.alloc (.cells #[.int .i64 f.k, .int .i64 f.pl, .int .i64 f.env, .int .i64 f.val] 141)).drew
  have hB1 : Below w.heap.size w (w0.alloc (.cells #[.int .i64 f.k, .int .i64 f.pl, .int .i64 f.env, .int .i64 f.val] 141)).drew := belowDrew (hB0.alloc hB0.size _)
  obtain ⟨w1, hw1⟩ : ∃ w1, w1 = (w0.alloc (.cells #[.int .i64 f.k, .int .i64 f.pl, .int .i64 f.env, .int .i64 f.val] 141)).drew := ⟨_, rfl⟩
  rw [← hw1] at hY1 hZ1 hX1 hB1 ⊢
  clear hw1 r0 r1 r2 r3 t5
  have u0 : w1.cell? ⟨rb, 0, none⟩ = some tv := hX1.c 0
  have u1 : w1.cell? ⟨w0.heap.size, 1, none⟩ = some (.int .i64 f.pl) := hY1.c 1
  have u2 : w1.cell? ⟨w0.heap.size, 2, none⟩ = some (.int .i64 f.env) := hY1.c 2
  have u3 : w1.cell? ⟨w0.heap.size, 3, none⟩ = some (.int .i64 f.val) := hY1.c 3
  have v0 := hZ1.c
  have vf := hZ1.f
  have n1 : ¬ rb = w.heap.size := by omega
  have n2 : ¬ w0.heap.size = w.heap.size := by omega
  have n3 : ¬ w.heap.size = rb := by omega
  have n4 : ¬ w.heap.size = w0.heap.size := by omega
  clear hY1 hX1 hZ hX0 hZ1
  obtain ⟨tn, ta, tc, rfl⟩ : ∃ tn ta tc, tv = .slice ta tn tc := htv
  go_wp2_with fail
  go_region_held3 (fun w' => w'.cell? ⟨rb, 0, none⟩ = some (.slice ta tn tc) ∧ w'.cell? ⟨w0.heap.size, 1, none⟩ = some (.int .i64 f.pl) ∧ w'.cell? ⟨w0.heap.size, 2, none⟩ = some (.int .i64 f.env) ∧ w'.cell? ⟨w0.heap.size, 3, none⟩ = some (.int .i64 f.val)) (go_keep)
    (first | fail)
  go_wp2_with fail
  refine bodyPost_ret (v := .agg #[.slice ta tn tc, .int .i64 f.pl, .int .i64 f.env, .int .i64 f.val]) (by simp [results, Tryz.results80, go_sem, v0]) rfl ⟨rfl, ?_⟩
  exact belowDrew (bsc0 (bsc0 (bsc0 (bsc0 hB1 _ _) _ _) _ _) _ _)
end Go.Proofs.YtnmkbpflbfhpnaaGreat.W

/-
  Contracts of choose and add of a running machine. Conditions: good machines of closed terms.
-/
namespace Go.Proofs.YtnmkbpflbfhpnaaGreat.W
open Go.ChangeShapes Go.WideShapes Go.ChangeAt Go.RowKit
set_option linter.unusedVariables false

/-- The term's row stays, whatever becomes of blocks from lo on. -/
structure TR (w : World) (lo : Nat) (ad : Option Addr) (c : Nat) (l : List Cc) : Prop where
  row : ∀ w', Below lo w w' → CRow w' ad l
  cap : l.length ≤ c
  max : c ≤ maxLen
  le : lo ≤ w.heap.size
theorem TR.below {w w' : World} {lo : Nat} {ad : Option Addr} {c : Nat} {l : List Cc} (h : TR w lo ad c l) (hb : Below lo w w') : TR w' lo ad c l :=
  ⟨fun w2 h2 => h.row w2 (hb.trans h2), h.cap, h.max, Nat.le_trans h.le hb.size⟩
theorem TR.now {w : World} {lo : Nat} {ad : Option Addr} {c : Nat} {l : List Cc} (h : TR w lo ad c l) : CRow w ad l := h.row w (Below.refl _ _)

set_option maxRecDepth 20000 in
set_option maxHeartbeats 2000000 in
theorem choose_any (rb lo : Nat) (ad : Option Addr) (c : Nat) (l : List Cc) (a : F) (m : Mc) (p : Nat) (e fv : Int) (x : Cc) (d : Nat) (k : F) (i : Nat) (w : World) (hCl : Cl l a) (h : RB w rb lo (.slice ad l.length c) m) (hT : TR w lo ad c l)
    (hn : (ndT a)[p]? = some (x, d, k)) (hx : x.k = 6) (hf : 0 < m.fs.length) (hi : i < m.vs.length) (hv : m.val = (i : Int)) (hnv : m.vs.length ≤ 500) :
    Calls Tryz.prog 81 #[.pointer (some ⟨rb, 0, none⟩), .agg #[.slice ad l.length c, .int .i64 (p : Int), .int .i64 e, .int .i64 fv]] w fun r w' =>
      RunOut r w' rb lo (.slice ad l.length c) m (if m.vs[i].fn = true then .inr 3 else .inl (nextM { m with fs := m.fs.dropLast } (kp a p (if m.vs[i].num = 0 then 1 else 2)) e)) ∧ Below lo w w' := by
  have hrl := h.lt.1
  have hrb := h.lt.2
  have hB0 : Below w.heap.size w (w.alloc (.cells #[.slice ad l.length c, .int .i64 (p : Int), .int .i64 e, .int .i64 fv] 145)) := (Below.refl _ _).alloc (Nat.le_refl _) _
  have hV := Bx.new w #[.slice ad l.length c, .int .i64 (p : Int), .int .i64 e, .int .i64 fv] 145
  have hR0 := h.below hB0
  have hT0 := hT.below (hB0.mono hT.le)
  obtain ⟨af, cf, av, cv, ab, cb, h1, h2, h3, h4, -⟩ := hR0.slots
  have har : ar x.k = 3 := by rw [hx]; rfl
  have HP1 := hide (fun w' (hb : CRow w' ad l) => partNo_any ad c l a p e 1 x d k w' hCl hn (by omega) hT.cap hT.max hb)
  have HP2 := hide (fun w' (hb : CRow w' ad l) => partNo_any ad c l a p e 2 x d k w' hCl hn (by omega) hT.cap hT.max hb)
  rw [show ((1 : Nat) : Int) = 1 from rfl] at HP1
  rw [show ((2 : Nat) : Int) = 2 from rfl] at HP2
  obtain ⟨w0, hw0⟩ : ∃ w0, w0 = w.alloc (.cells #[.slice ad l.length c, .int .i64 (p : Int), .int .i64 e, .int .i64 fv] 145) := ⟨_, rfl⟩
  rw [← hw0] at hB0 hV hR0 hT0 h1 h3
  have HR0 := hide hR0
  have HT0 := hide hT0
  have HV := hide hV
  have HCm := hide (cameTo_any m.done m.pl m.env i (.slice af m.fs.length cf) (.slice ab m.bs.length cb) av cv m.vs w0 (RRow.ofOwn h3 rfl) hi (by omega))
  have hc := h1.c
  rw [hv] at hc
  have hvl := hV.lt
  have hle := hT.le
  obtain ⟨y, hy⟩ : ∃ y, y = m.vs[i] := ⟨_, rfl⟩
  rw [← hy] at HCm ⊢
  clear h h1 h2 h3 h4 hR0 hT0 hV hT hn hy hv hCl har hx
  obtain ⟨y0, y1, y2, y3⟩ := y
  go_enter Tryz.func81, Tryz.ntmps81
  go_upto_region 1 with fail
  rw [← hw0]
  clear hw0
  go_wp2_with fail
  refine HCm.out.mono ?_
  rintro r w1 ⟨rfl, hb1⟩
  have HV1 := hide (HV.out.below hb1 hvl)
  have HR1 := hide (HR0.out.below hb1)
  have HT1 := hide (HT0.out.below (hb1.mono (Nat.le_trans hle hB0.size)))
  have hB1 : Below lo w w1 := (hB0.mono hle).trans (hb1.mono (Nat.le_trans hle hB0.size))
  have hs1 := hb1.size
  clear hb1 hc HV HR0 HT0 HCm
  cases y0 with
  | true =>
    go_wp2_with fail
    go_ret
    exact ⟨⟨rfl, HR1.out.below ((Below.refl _ _).alloc (Nat.le_refl _) _)⟩, hB1.alloc (Nat.le_trans hle (by have := hB0.size; omega)) _⟩
  | false =>
    have hB1' : Below w1.heap.size w1 (w1.alloc (.cells #[.bool false, .int .i64 y1, .int .i64 y2, .int .i64 y3] 69)) := (Below.refl _ _).alloc (Nat.le_refl _) _
    have hlz : lo ≤ w1.heap.size := Nat.le_trans hle (by have := hB0.size; omega)
    go_wp2_with fail
    refine (dropFrame_any rb lo _ m _ (HR1.out.below hB1') hf).mono ?_
    rintro r w2 ⟨rfl, hR2, hO2⟩
    have hA2 : Bx w2 w1.heap.size #[.bool false, .int .i64 y1, .int .i64 y2, .int .i64 y3] 69 := (hO2.block _ (by simp) (by omega)).trans (Bx.new w1 _ _)
    have hV2 : Bx w2 w.heap.size #[.slice ad l.length c, .int .i64 (p : Int), .int .i64 e, .int .i64 fv] 145 := (hO2.block _ (by simp; omega) (by omega)).trans (HV1.out.alloc _)
    have hB2 : Below lo w w2 := (hB1.alloc hlz _).trans (hO2.below (by simp; omega) hrb)
    have HR2 := hide hR2
    have HT2 := hide ((HT1.out.below (hB1'.mono hlz)).below (hO2.below (by simp; omega) hrb))
    have hca := hA2.c
    have hcv := hV2.c
    have hz2 : lo ≤ w2.heap.size := Nat.le_trans hle hB2.size
    clear hR2 hO2 hA2 hV2 HR1 HT1 HV1 hB1'
    by_cases hy1 : y1 = 0
    · subst hy1
      go_wp2_with fail
      refine (HP1.out _ HT2.out.now).mono ?_
      rintro r w3 ⟨rfl, hb3⟩
      have HR3 := hide (HR2.out.below hb3)
      have hB3 : Below lo w w3 := hB2.trans (hb3.mono hz2)
      clear hb3 hca hcv
      go_wp2_with fail
      refine (next_any rb lo _ _ _ _ _ _ HR3.out).mono ?_
      rintro r w4 ⟨rfl, hR4, hO4⟩
      go_wp2_with fail
      go_ret
      exact ⟨⟨rfl, hR4⟩, hB3.trans (hO4.below (Nat.le_trans hle hB3.size) hrb)⟩
    · go_wp2_with fail
      refine (HP2.out _ HT2.out.now).mono ?_
      rintro r w3 ⟨rfl, hb3⟩
      have HR3 := hide (HR2.out.below hb3)
      have hB3 : Below lo w w3 := hB2.trans (hb3.mono hz2)
      clear hb3 hca hcv
      go_wp2_with fail
      refine (next_any rb lo _ _ _ _ _ _ HR3.out).mono ?_
      rintro r w4 ⟨rfl, hR4, hO4⟩
      go_wp2_with fail
      go_ret
      exact ⟨⟨rfl, hR4⟩, hB3.trans (hO4.below (Nat.le_trans hle hB3.size) hrb)⟩
end Go.Proofs.YtnmkbpflbfhpnaaGreat.W

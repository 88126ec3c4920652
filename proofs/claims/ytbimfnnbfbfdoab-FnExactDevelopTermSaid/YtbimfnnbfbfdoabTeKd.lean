/-
  A redex anywhere in a term contracted by the program: a contract of contractedAt. Conditions: good terms.
-/
import Derived.Test.YtbimfnnbfbfdoabTeKc
namespace Go.Proofs.Ytbimfnnbfbfdoab.W
open Go.ChangeShapes Go.WideShapes Go.ChangeAt Go.RowKit
set_option linter.unusedVariables false

theorem putO_len {d z : Cc} {kd kz : F} (hd : okT d kd) {p : Cc × F} (h : putO d kd z kz = some p) : p.2.flat.length + 1 ≤ 600 := by
  unfold putO at h
  split at h
  · rename_i h6
    simp only [Option.some.injEq] at h
    subst h
    have h9 := sbf_flat 0 z kz (.cons d kd .nil) 0 0 0 ⟨hd.1, hd.2.1, hd.2.2, trivial⟩
    have h10 : usf (0 + 0) 0 0 (.cons d kd .nil) = us1 0 d kd := by rw [usf_cons, binds_0]; simp [usf]
    have h11 : sbf 0 z kz 0 0 0 (.cons d kd .nil) = .cons (sbr 0 z 0 d) (sbk 0 z kz 0 d kd) .nil := by rw [sbf_cons, binds_0]; rfl
    rw [h10, h11] at h9
    simp [F.flat] at h9
    simp only
    omega
  · cases h
theorem ctrO_len {x : Cc} {k : F} (hk : okT x k) (hr : redx x k = true) (hl : k.flat.length + 1 ≤ 600) {p : Cc × F} (h : ctrO x k = some p) : p.2.flat.length + 1 ≤ 600 := by
  cases red_of hk hr with
  | app y d z kd kz hx hk' hy hd hz =>
    subst hk'
    have e1 : ctrO x (.cons y (.cons d kd .nil) (.cons z kz .nil)) = putO d kd z kz := by simp [ctrO, hx]
    rw [e1] at h
    exact putO_len hd h
  | lett y d ky kd hx hk' hy hd =>
    subst hk'
    have e1 : ctrO x (.cons y ky (.cons d kd .nil)) = putO d kd y ky := by simp [ctrO, hx]
    rw [e1] at h
    exact putO_len hd h
  | add y z hx hk' hy hz hyn hzn hs =>
    subst hk'
    have e1 : ctrO x (.cons y .nil (.cons z .nil .nil)) = some (⟨2, y.n + z.n⟩, .nil) := by simp [ctrO, hx]
    rw [e1] at h
    simp only [Option.some.injEq] at h
    subst h
    simp [F.flat]
  | iff y z u kz ku hx hk' hy hz hu =>
    subst hk'
    have e1 : ctrO x (.cons y .nil (.cons z kz (.cons u ku .nil))) = some (if y.n = 0 then (z, kz) else (u, ku)) := by simp [ctrO, hx]
    rw [e1] at h
    simp only [Option.some.injEq] at h
    subst h
    simp [F.flat] at hl
    split <;> simp <;> omega

set_option maxRecDepth 20000 in
set_option maxHeartbeats 2000000 in
theorem contractedAt_any (b o c : Nat) (l : List Cc) (at_ : Nat) (r : Option (List Cc)) (w : World) (hp : Place l at_ r) (hl : l.length ≤ 600) (hc : l.length ≤ c) (h : CRowAt w b o l) :
    Calls Try.prog 43 #[.slice (some ⟨b, o, none⟩) l.length c, .int .i64 (at_ : Int)] w fun e w' => RS w r e w' := by
  obtain ⟨pre, y, ky, post, h1, h2, hk, hr, h5⟩ := hp
  have hlen : l.length = at_ + (ky.flat.length + 1) + post.length := by rw [h1, ← h2]; simp; omega
  rw [h1] at h
  have hd : CRowAt w b (o + at_ * 2) ((y :: ky.flat) ++ post) := by have := h.back; rw [h2] at this; simpa using this
  have hcut := cutAhead_any b (o + at_ * 2) (c - at_) ((y :: ky.flat) ++ post) (ky.flat.length + 1) w (by simp; omega) (by simp; omega) (sz_one hk _) (by simp) hd
  have hcl : ((y :: ky.flat) ++ post).length = l.length - at_ := by simp; omega
  rw [hcl] at hcut
  have hpl : l.length - at_ - (ky.flat.length + 1) = post.length := by omega
  rw [hpl] at hcut
  have HC := hide hcut
  have HK := hide (fun (w' : World) (hb : Below w.heap.size w w') => contracted_any b (o + at_ * 2) (c - at_) y ky w' hk hr (ky.flat.length + 1) rfl (by omega) (by omega) (hd.front.below hb))
  have HPre := hide h.front
  have HD := hide hd
  obtain ⟨L, hL⟩ : ∃ L, L = l.length := ⟨_, rfl⟩
  rw [← hL] at HC hlen hl hc ⊢
  have ha0 : (0 : Int) ≤ (at_ : Int) := by omega
  have haL : (at_ : Int) ≤ (L : Int) := by omega
  have haL2 : (at_ : Int) < (L : Int) := by omega
  have hLc : (L : Int) ≤ (c : Int) := by omega
  have hac : (at_ : Int) ≤ (c : Int) := by omega
  have hcn : ¬ c = at_ := by omega
  have HL := hide hlen
  have HLen := fun p (hp : ctrO y ky = some p) => ctrO_len hk hr (by omega) hp
  have HCL := hide HLen
  obtain ⟨N, hN⟩ : ∃ N, N = ky.flat.length + 1 := ⟨_, rfl⟩
  rw [← hN] at HC HK HL
  have HN := hide hN
  clear h1 h hd hcut hcl hpl hL hlen HLen hN
  go_enter Try.func43, Try.ntmps43
  go_wp2_with fail
  refine Calls.mono HC.out ?_
  rintro e w1 ⟨q, rfl, hq, hb1⟩
  have HQ := hide hq
  clear hq HC
  go_wp2_with fail
  refine Calls.mono (HK.out _ hb1) ?_
  rintro e w2 ⟨s2, rfl, ho2, hb2⟩
  have hB2 : Below w.heap.size w w2 := hb1.trans (hb2.mono hb1.size)
  obtain ⟨ad2, c2, rfl⟩ := iOwn_form ho2
  clear HK
  cases hco : ctrO y ky with
  | none =>
    rw [hco] at h5
    obtain rfl : r = none := h5
    clear ho2 hb2
    simp only [Option.map_none, Option.isSome_none]
    go_wp2_with fail
    exact bodyPost_ret (v := .tuple #[.slice none 0 0, .bool false]) (by simp [results, Try.results43, go_sem]) rfl ⟨_, rfl, World.ownsRow_nil _ _ _ _, hB2⟩
  | some p =>
    rw [hco] at h5 ho2
    have hM := HCL.out p hco
    obtain ⟨cs, hcs⟩ : ∃ cs, cs = p.1 :: p.2.flat := ⟨_, rfl⟩
    have h6 : r = some (pre ++ cs ++ post) := by rw [h5, hcs]; simp
    have ho2' : w2.ownsRow w1.heap.size 46 2 (.slice ad2 cs.length c2) cs.length (cv cs) := by rw [hcs]; exact ho2
    have hcl : cs.length ≤ 600 := by rw [hcs]; simpa using hM
    have hc0 : 0 < cs.length := by rw [hcs]; simp
    have e0 : (Option.map (fun p : Cc × F => p.1 :: p.2.flat) (some p)) = some cs := by rw [hcs]; rfl
    rw [e0]
    simp only [Option.getD_some, Option.isSome_some]
    have hO := ho2'
    obtain ⟨ad', c', he, hcc, hrow⟩ := cOwn_row ho2'
    obtain ⟨g, cap, hgs, -, hg⟩ := tOwn_some ho2' hc0
    simp only [Value.slice.injEq] at he hgs
    obtain ⟨rfl, -, rfl⟩ := he
    obtain ⟨rfl, -, rfl⟩ := hgs
    have HRow := hide hrow
    obtain ⟨w3, hw3⟩ : ∃ w3, w3 = w2.alloc (.cells #[.slice (some ⟨b, o, none⟩) at_ c, .slice (some ⟨g, 0, none⟩) cs.length c2, .slice (some ⟨b, q, none⟩) post.length (c - at_ - N)] 24) := ⟨_, rfl⟩
    have hB23 : Below w2.heap.size w2 w3 := by rw [hw3]; exact (Below.refl _ _).alloc (Nat.le_refl _) _
    have hB3 : Below w.heap.size w w3 := hB2.trans (hB23.mono hB2.size)
    have hh3 : w3.heap[w2.heap.size]? = some (.cells #[.slice (some ⟨b, o, none⟩) at_ c, .slice (some ⟨g, 0, none⟩) cs.length c2, .slice (some ⟨b, q, none⟩) post.length (c - at_ - N)] 24) := by rw [hw3]; exact heap_alloc_new _ _
    have hq1 := (cell_of_blk hh3 0).trans rfl
    have hq2 := (cell_of_blk hh3 1).trans rfl
    have hq3 := (cell_of_blk hh3 2).trans rfl
    have hlt3 : w2.heap.size < w3.heap.size := (Array.getElem?_eq_some_iff.1 hh3).1
    have hpost : CRow w3 (some ⟨b, q, none⟩) post := by
      by_cases hp0 : post = []
      · exact .inl hp0
      · have hpl : 0 < post.length := List.length_pos_iff.2 hp0
        have hqq := HQ.out (by have := HL.out; omega)
        refine .inr ⟨b, q, rfl, ?_⟩
        have := (HD.out.below hB3).back
        rw [hqq, HN.out]
        simpa using this
    have hcat := concatC_any w2.heap.size b o c g 0 c2 b q (c - at_ - N) pre cs post w3 (by omega) (by have := HL.out; omega) hlt3 (by rw [h2]; exact hq1) hq2 hq3 (.inr ⟨b, o, rfl, HPre.out.below hB3⟩) (HRow.out.below hB23) hpost
    have HCat := hide hcat
    have hcl3 : (pre ++ cs ++ post).length ≤ 1048576 := by simp; have := HL.out; omega
    have hcl4 : pre.length + cs.length + post.length = (pre ++ cs ++ post).length := by simp; omega
    rw [hcl4] at HCat
    obtain ⟨Z, hZ⟩ : ∃ Z, Z = pre ++ cs ++ post := ⟨_, rfl⟩
    rw [← hZ] at HCat h6 hcl3
    obtain ⟨CN, hCN⟩ : ∃ CN, CN = cs.length := ⟨_, rfl⟩
    rw [← hCN] at hw3 ⊢
    clear hcat hpost hq1 hq2 hq3 hh3 hco h5 ho2 hO hM e0 hcs ho2' hcc hrow hcl4 HRow hCN hb2 HCL hZ
    go_wp2_with fail
    rw [← hw3]
    refine Calls.mono HCat.out ?_
    rintro e w4 ⟨v4, rfl, ho4, hb4⟩
    have hB4 : Below w.heap.size w w4 := hB3.trans (hb4.mono hB3.size)
    have HO4 := hide (iOwn_lower ho4 hB3.size)
    obtain ⟨rad, rc, rfl, hrc, hrow4⟩ := cOwn_row ho4
    have HGC := hide (implGoodT_any rad rc Z w4 hcl3 hrow4)
    obtain ⟨G, hG⟩ : ∃ G, G = goodT Z := ⟨_, rfl⟩
    rw [← hG] at HGC
    have HGe := hide hG
    obtain ⟨ZN, hZN⟩ : ∃ ZN, ZN = Z.length := ⟨_, rfl⟩
    rw [← hZN] at HGC HO4 ⊢
    have HZN := hide hZN
    clear hG hZN ho4 hrow4 hb4 hw3 HCat
    go_wp2_with fail
    refine Calls.mono HGC.out ?_
    rintro e w5 ⟨rfl, hb5⟩
    have hB5 : Below w.heap.size w w5 := hB4.trans (hb5.mono hB4.size)
    have HO5 := hide (tOwn_keep HO4.out (fun k _ hk => hb5.block k hk))
    clear HGC hb5 HO4
    subst h6
    cases G with
    | true =>
      go_wp2_with fail
      refine bodyPost_ret (v := .tuple #[.slice rad ZN rc, .bool true]) (by simp [results, Try.results43, go_sem]) rfl ⟨.slice rad ZN rc, ?_, ?_, hB5⟩
      · show _ = Ending.returned (.tuple #[_, .bool (goodT Z)]); rw [← HGe.out]
      · have : rL (some Z) = Z := by show gd Z = Z; unfold gd; rw [if_pos HGe.out.symm]
        rw [this, ← HZN.out]; exact HO5.out
    | false =>
      go_wp2_with fail
      refine bodyPost_ret (v := .tuple #[.slice none 0 0, .bool false]) (by simp [results, Try.results43, go_sem]) rfl ⟨.slice none 0 0, ?_, ?_, hB5⟩
      · show _ = Ending.returned (.tuple #[_, .bool (goodT Z)]); rw [← HGe.out]
      · have : rL (some Z) = [] := by show gd Z = []; unfold gd; rw [if_neg (by rw [← HGe.out]; simp)]
        rw [this]; exact World.ownsRow_nil _ _ _ _
end Go.Proofs.Ytbimfnnbfbfdoab.W

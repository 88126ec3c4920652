/-
  Numbers of expressions: what a tree comes to; contracts of the program's endOf, numberOf, twoAt and numberAt. Conditions: the numbers are in the bound; rows of at most 1048576 parts.
-/
import Derived.Test.YtjffignbiabmaaaDoorEv1
namespace Go.Proofs.YtjffignbiabmaaaDoor.W
open Go.ChangeShapes Go.WideShapes Go.ChangeAt Go.RowKit
set_option linter.unusedVariables false

def lookN : List ByteArray → List Int → ByteArray → Int × Int
  | n :: ns, v :: vs, t => if (n.toList == t.toList) = true then (v, 0) else lookN ns vs t
  | _, _, _ => (0, 1)
/-- What a tree comes to: a number and 0, or 0 and a code. -/
def ev (ns : List ByteArray) (vs : List Int) : E → Int × Int
  | .leaf x => if x.k = 1 then (x.n, 0) else lookN ns vs x.t
  | .one x a => if (ev ns vs a).2 ≠ 0 then (0, (ev ns vs a).2) else if x.k = 3 then (-(ev ns vs a).1, 0) else (tr ((ev ns vs a).1 == 0), 0)
  | .two x a b =>
    if (ev ns vs a).2 ≠ 0 then (0, (ev ns vs a).2)
    else if x.t.toList = [38, 38] ∧ (ev ns vs a).1 = 0 then (0, 0)
    else if x.t.toList = [124, 124] ∧ (ev ns vs a).1 ≠ 0 then (1, 0)
    else if (ev ns vs b).2 ≠ 0 then (0, (ev ns vs b).2)
    else if x.t.toList = [38, 38] ∨ x.t.toList = [124, 124] then (tr ((ev ns vs b).1 != 0), 0)
    else do2 x.t.toList (ev ns vs a).1 (ev ns vs b).1

theorem bd_bd (n : Int) : bdB (bd n).1 = true := by unfold bd; split <;> rename_i h <;> first | exact h | rfl
theorem do2_bd {a b : Int} (s : List UInt8) (ha : bdB a = true) : bdB (do2 s a b).1 = true := by
  rw [bdB_iff] at ha
  unfold do2
  repeat' split
  all_goals first
    | exact bd_bd _
    | exact tr_bd _
    | rfl
    | exact bdB_iff.2 (tdiv_bd b ha.1 ha.2)
    | exact bdB_iff.2 (tmod_bd b ha.1 ha.2)
theorem lookN_bd : ∀ (ns : List ByteArray) (vs : List Int) (t : ByteArray), (∀ v ∈ vs, bdB v = true) → bdB (lookN ns vs t).1 = true
  | [], _, _, _ => by simp [lookN]; rfl
  | _ :: _, [], _, _ => by simp [lookN]; rfl
  | n :: ns, v :: vs, t, h => by
    unfold lookN
    split
    · exact h v (by simp)
    · exact lookN_bd ns vs t (fun x hx => h x (by simp [hx]))
theorem neg_bd {n : Int} (h : bdB n = true) : bdB (-n) = true := by rw [bdB_iff] at h ⊢; omega
theorem ev_bd {ns : List ByteArray} {vs : List Int} (hv : ∀ v ∈ vs, bdB v = true) : ∀ e : E, e.ok → bdB (ev ns vs e).1 = true
  | .leaf x, h => by
    unfold ev
    split
    · rename_i hk
      have hg := h.1
      simp [goodX, hk, inB] at hg
      exact bdB_iff.2 (by omega)
    · exact lookN_bd _ _ _ hv
  | .one x a, h => by
    have ha := ev_bd (ns := ns) hv a h.2.2
    unfold ev
    split
    · rfl
    · split
      · exact neg_bd ha
      · exact tr_bd _
  | .two x a b, h => by
    have ha := ev_bd (ns := ns) hv a h.2.2.1
    unfold ev
    repeat' split
    all_goals first
      | rfl
      | exact tr_bd _
      | exact do2_bd _ ha

/-- A row of cells: none, or cells that lie in a block. -/
def CR (w : World) (ad : Option Addr) (cs : List Value) : Prop := cs = [] ∨ ∃ b o, ad = some ⟨b, o, none⟩ ∧ b < w.heap.size ∧ ∀ i (h : i < cs.length), w.cell? ⟨b, o + i, none⟩ = some cs[i]
theorem CR.below {w w' : World} {ad : Option Addr} {cs : List Value} (h : CR w ad cs) (hb : Below w.heap.size w w') : CR w' ad cs := by
  rcases h with h | ⟨b, o, h1, h2, h3⟩
  · exact .inl h
  · exact .inr ⟨b, o, h1, Nat.lt_of_lt_of_le h2 hb.size, fun i hi => (hb.cell (p := ⟨b, o + i, none⟩) h2).trans (h3 i hi)⟩
theorem CR.at {w : World} {ad : Option Addr} {cs : List Value} (h : CR w ad cs) {i : Nat} (hi : i < cs.length) : ∃ b o, ad = some ⟨b, o, none⟩ ∧ b < w.heap.size ∧ w.cell? ⟨b, o + i, none⟩ = some cs[i] := by
  rcases h with rfl | ⟨b, o, h1, h2, h3⟩
  · simp at hi
  · exact ⟨b, o, h1, h2, h3 i hi⟩

/-- What the program's evaluator holds. -/
structure EvS (w : World) (g : Nat) (ade adn adv : Option Addr) (ce cn cv : Nat) (l : List Xx) (ns : List ByteArray) (vs : List Int) : Prop where
  lt : g < w.heap.size
  c0 : w.cell? ⟨g, 0, none⟩ = some (.slice ade l.length ce)
  c1 : w.cell? ⟨g, 1, none⟩ = some (.slice adn ns.length cn)
  c2 : w.cell? ⟨g, 2, none⟩ = some (.slice adv vs.length cv)
  row : Row w ade l
  names : CR w adn (ns.map Value.string)
  nums : CR w adv (vs.map (Value.int .i64))
theorem EvS.below {w w' : World} {g : Nat} {ade adn adv : Option Addr} {ce cn cv : Nat} {l : List Xx} {ns : List ByteArray} {vs : List Int} (h : EvS w g ade adn adv ce cn cv l ns vs) (hb : Below w.heap.size w w') : EvS w' g ade adn adv ce cn cv l ns vs :=
  ⟨Nat.lt_of_lt_of_le h.lt hb.size, (hb.cell (p := ⟨g, 0, none⟩) h.lt).trans h.c0, (hb.cell (p := ⟨g, 1, none⟩) h.lt).trans h.c1, (hb.cell (p := ⟨g, 2, none⟩) h.lt).trans h.c2, h.row.below hb, h.names.below hb, h.nums.below hb⟩

theorem lookN_step (ns : List ByteArray) (vs : List Int) (t : ByteArray) (j : Nat) (h1 : j < ns.length) (h2 : j < vs.length) : lookN (ns.drop j) (vs.drop j) t = if (ns[j].toList == t.toList) = true then (vs[j], 0) else lookN (ns.drop (j + 1)) (vs.drop (j + 1)) t := by
  rw [List.drop_eq_getElem_cons h1, List.drop_eq_getElem_cons h2]
  rfl

set_option maxHeartbeats 2000000 in
theorem numberOf_any (w : World) (g : Nat) (ade adn adv : Option Addr) (ce cn cv : Nat) (l : List Xx) (ns : List ByteArray) (vs : List Int) (h : EvS w g ade adn adv ce cn cv l ns vs) (hn : ns.length ≤ 20) (hnv : ns.length = vs.length) (t : ByteArray) :
    Calls Tryd.prog 103 #[.pointer (some ⟨g, 0, none⟩), .string t] w fun e w' => e = .returned (.tuple #[.int .i64 (lookN ns vs t).1, .int .i64 (lookN ns vs t).2]) ∧ Below w.heap.size w w' := by
  have HE := hide h
  have c1 := h.c1
  have hg := h.lt
  clear h
  obtain ⟨R, hR⟩ : ∃ R, R = lookN ns vs t := ⟨_, rfl⟩
  rw [← hR]
  have HRr := hide hR
  clear hR
  go_enter Tryd.func103, Tryd.ntmps103
  go_wp2_with fail
  go_loopw [13] (fun i w' => ∃ j : Nat, j ≤ ns.length ∧ i = .int .i64 j ∧ R = lookN (ns.drop j) (vs.drop j) t ∧ Below w.heap.size w w') (fun i _ => ns.length - (intOf i).toNat)
  case atStart => exact ⟨0, by omega, rfl, HRr.out, Below.refl _ _⟩
  case round =>
    obtain ⟨j, hj, rfl, hR, hB⟩ := hrel
    by_cases hlt : j < ns.length
    · have hlt' : (j : Int) < (ns.length : Int) := by omega
      have hltv : j < vs.length := by omega
      have hltv' : (j : Int) < (vs.length : Int) := by omega
      rw [lookN_step ns vs t j hlt hltv] at hR
      have HE2 := HE.out.below hB
      obtain ⟨b, o, rfl, hb, q⟩ := HE2.names.at (i := j) (by simpa using hlt)
      obtain ⟨b', o', rfl, hb', q'⟩ := HE2.nums.at (i := j) (by simpa using hltv)
      have d2 := HE2.c2
      rw [List.getElem_map] at q q'
      obtain ⟨X, hX⟩ : ∃ X, X = ns[j] := ⟨_, rfl⟩
      obtain ⟨V, hV⟩ : ∃ V, V = vs[j] := ⟨_, rfl⟩
      rw [← hX] at q hR
      rw [← hV] at q' hR
      have HR2 := hide hR
      clear hX hV hR HE2
      by_cases heq : (X.toList == t.toList) = true
      · go_wp2_with fail
        go_ret2
        have e : R = (V, 0) := by rw [HR2.out, if_pos heq]
        exact ⟨by rw [e]; rfl, hB⟩
      · rw [Bool.not_eq_true] at heq
        go_wp2_with fail
        refine ⟨⟨j + 1, by omega, by go_num, ?_, hB⟩, by simp [intOf]; omega⟩
        rw [HR2.out, if_neg (by rw [heq]; simp)]
    · obtain rfl : j = ns.length := by omega
      have e : R = (0, 1) := by rw [hR, List.drop_length]; cases (vs.drop ns.length) <;> rfl
      have He := hide e
      clear hR e
      go_wp2_with fail
      go_ret2
      exact ⟨by rw [He.out]; rfl, hB⟩

theorem fl_len : ∀ fs : List E, fs.length ≤ (fl fs).length
  | [] => by simp [fl]
  | k :: fs => by have := fl_len fs; have := k.flat_pos; rw [fl_cons]; simp; omega

set_option maxHeartbeats 2000000 in
theorem endOf_any (ad : Option Addr) (c : Nat) (l : List Xx) (w : World) (hl : l.length ≤ 1048576) (h : Row w ad l) (e : E) (p : Nat) (r : List Xx) (hd : l.drop p = e.flat ++ r) (hok : e.ok) :
    Calls Tryd.prog 137 #[.slice ad l.length c, .int .i64 p] w fun x w' => x = .returned (.int .i64 ((p + e.flat.length : Nat) : Int)) ∧ Below w.heap.size w w' := by
  have HR := hide h
  have HD := hide hd
  have hpl := drop_len hd e.flat_pos
  clear h hd
  go_enter Tryd.func137, Tryd.ntmps137
  go_wp2_with fail
  go_loopw [1, 5] (fun a1 m5 w' => ∃ (q : Nat) (fs : List E), a1 = .int .i64 q ∧ m5 = .int .i64 (fs.length : Int) ∧ l.drop q = fl fs ++ r ∧ q + (fl fs).length = p + e.flat.length ∧ (∀ k ∈ fs, k.ok) ∧ Below w.heap.size w w') (fun a1 _ _ => l.length - (intOf a1).toNat)
  case atStart => exact ⟨p, [e], rfl, rfl, by rw [HD.out]; simp [fl], by simp [fl], by simpa using hok, Below.refl _ _⟩
  case round =>
    obtain ⟨q, fs, rfl, rfl, hq, hql, hfo, hB⟩ := hrel
    cases fs with
    | nil =>
      have hqe : (q : Int) = ((p + e.flat.length : Nat) : Int) := by simp [fl] at hql; omega
      have Hq := hide hqe
      clear hq hql hfo hqe
      simp only [List.length_nil]
      go_wp2_with fail
      go_ret
      exact ⟨ret_int Hq.out, hB⟩
    | cons k fs =>
      have hk := hfo k (by simp)
      have hkl := E.kids_len hk
      have hk2 := E.kids_le k
      have hko := E.kids_ok hk
      have hfl : fl (k :: fs) = k.head :: fl (k.kids ++ fs) := by rw [fl_cons, E.flat_kids]; simp [fl]
      rw [hfl] at hq hql
      obtain ⟨hqlt, hqx⟩ := drop_lt hq
      have hqlt' : (q : Int) < (l.length : Int) := by omega
      obtain ⟨b, o, rfl, hb, p0, p1, p2⟩ := HR.out.tok hB hqlt
      rw [hqx] at p0 p1 p2
      have hq2 : l.drop (q + 1) = fl (k.kids ++ fs) ++ r := by rw [← List.drop_drop, hq]; rfl
      have hn : (behind k.head : Int) = (k.kids.length : Int) := by omega
      obtain ⟨x, hx⟩ : ∃ x, x = k.head := ⟨_, rfl⟩
      rw [← hx] at p0 p1 p2 hn
      obtain ⟨M, hM⟩ : ∃ M, M = fs.length := ⟨_, rfl⟩
      have hML : M ≤ l.length := by
        have h1 := drop_len (l := l) (p := q) (a := [k.head]) (r := fl (k.kids ++ fs) ++ r) hq (by simp)
        have h2 : fs.length ≤ (fl fs).length := fl_len fs
        have h3 : (fl (k.kids ++ fs)).length = (fl k.kids).length + (fl fs).length := by simp [fl]
        simp only [List.length_append] at h1
        omega
      have Hq2 := hide hq2
      have Hql := hide hql
      have Hfo := hide hfo
      have Hko := hide hko
      have HM := hide hM
      simp only [List.length_cons, ← hM]
      clear hq hql hfo hq2 hfl hqx hk hkl hx hko hM
      go_wp2_with fail
      refine (partsBehind_any x _).mono ?_
      rintro e2 w2 ⟨rfl, hb2⟩
      rw [hn]
      have hB2 : Below w.heap.size w w2 := hB.trans (hb2.mono hB.size)
      clear hb2 p0 p1 p2 hn
      go_wp2_with fail
      refine ⟨⟨q + 1, k.kids ++ fs, by go_num, ?_, Hq2.out, ?_, ?_, hB2⟩, by simp [intOf]; omega⟩
      · rw [List.length_append, ← HM.out]; congr 1; omega
      · have := Hql.out; simp only [List.length_cons] at this; omega
      · intro k' hk'
        rcases List.mem_append.1 hk' with h | h
        · exact Hko.out k' h
        · exact Hfo.out k' (by simp [h])
end Go.Proofs.YtjffignbiabmaaaDoor.W

/-
  TeW for terms whose variables may be up to 900000 (written by build/weak.py).
-/
import Derived.Test.YtnmkbpflbfhpnaaTeW
import Derived.Test.YtnmkbpflbfhpnaaWkP
import Derived.Deep.RegionHeld3
import Derived.Test.YtnmkbpflbfhpnaaWkTeV
namespace Go.Proofs.Ytnmkbpflbfhpnaa.V
open Go.Proofs.Ytnmkbpflbfhpnaa.W
open Go.ChangeShapes Go.WideShapes Go.ChangeAt Go.RowKit
set_option linter.unusedVariables false

section
variable {σ : Type} (g : σ → Int → Nat → F) (st : σ → Int → Nat → σ)
end

/-- What a change of variables does. -/
def ChgOK {σ : Type} (fid : FuncId) (cap : Array Value) (cb : Nat) (ob : σ → World → Prop) (g : σ → Int → Nat → F) (st : σ → Int → Nat → σ) : Prop :=
  ∀ (s : σ) (n : Int) (d : Nat) (w : World), 0 ≤ n → n ≤ 900000 → d ≤ 1048576 → cb < w.heap.size → Inv cb (ob s) w →
    Calls Try.prog fid (#[.agg #[.int .i64 n], .int .i64 (d : Int)] ++ cap) w fun e w' => e = .returned (pvT (g s n d)) ∧ Inv cb (ob (st s n d)) w' ∧ Oth cb w w'

section
variable {σ : Type} (fid : FuncId) (cap : Array Value) (cb : Nat) (ob : σ → World → Prop) (g : σ → Int → Nat → F) (st : σ → Int → Nat → σ)

def WVGoal (k : F) : Prop := ∀ (x : Cc) (s : σ) (d : Nat), goodC x = true → k.len = ar x.k → k.okw → d + k.flat.length ≤ 1048576 → WVC fid cap cb ob s (d : Int) (pv x.k x.n (pvs k)) (w1 g st d x k s)

set_option maxRecDepth 20000 in
set_option maxHeartbeats 2000000 in
theorem with_var (hfn : ∀ args w, (callFunc fid args).run Try.prog w = .ok (.enter fid args) w) (hch : ChgOK fid cap cb ob g st) (hlen : ∀ s n d, (g s n d).len = 1) (s0 : σ) (d : Nat) (hd : d ≤ 1048576) (n : Int) (h0 : 0 ≤ n) (h1 : n ≤ 900000) :
    ∀ (w : World), cb < w.heap.size → Inv cb (ob s0) w → Calls Try.prog 62 #[.iface 66 (.agg #[.int .i64 n]), .int .i64 (d : Int), .func (.func fid) #[] cap] w fun e w' => e = .returned (pvT (g s0 n d)) ∧ Inv cb (ob (st s0 n d)) w' ∧ Oth cb w w' := by
  intro w hcb hinv
  have HI := hide hinv
  have HC := hide (fun w' => hch s0 n d w' h0 h1 hd)
  obtain ⟨T, u, hV⟩ := pvT_iface (hlen s0 n d)
  rw [hV] at HC ⊢
  clear hinv hV hch
  have a_var := as_var_var
  go_enter Try.func62, Try.ntmps62
  go_wp2_with fail
  refine Calls.mono (HC.out _ (by simp; omega) (HI.out.oth _)) ?_
  rintro e w2 ⟨rfl, hi2, ho2⟩
  go_wp2_with fail
  go_ret
  exact ⟨rfl, hi2, (Oth.alloc1 cb w _).trans ho2⟩

end
end Go.Proofs.Ytnmkbpflbfhpnaa.V

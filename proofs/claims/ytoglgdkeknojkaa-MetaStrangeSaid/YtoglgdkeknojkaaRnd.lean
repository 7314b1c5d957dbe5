/-
  A REGION THAT DRAWS ITS ORDER, WITHIN A ROUND: what holds outside a round holds within one, if nothing is deferred.
-/
import Derived.Test.YtoglgdkeknojkaaScope
import Derived.OrdersIn
import Derived.RangeFuncCalls
namespace Go.Proofs.Ytoglgdkeknojkaa
open Go

theorem any_inRound {F : Fence} {n : Nat} {P : Program} {md : Region.Mode} {ops : Array Oper} {Q : Exit → Act → World → Prop} {l : Nat} (hro : F.round = none) (hd : ∀ (j : Nat) (o : Oper) c, ops[j]? = some o → o.op ≠ .defer c) :
    ∀ (fuel : Nat) (listed : Array Bool) (a : Act) (w : World), wpAnyIn F n P md ops Q fuel listed a w → wpAnyIn (F.inRound l) n P md ops Q fuel listed a w
  | 0, _, _, _, h => h
  | fuel + 1, listed, a, w, h => by
    refine ⟨h.1, fun i hi => ?_⟩
    have h2 := h.2 i hi
    unfold wpOpIn at h2 ⊢
    cases e : ops[i]? with
    | none => rw [e] at h2; exact any_inRound hro hd fuel _ _ _ h2
    | some o =>
      rw [e] at h2
      simp only at h2 ⊢
      split
      · rename_i hw
        rw [if_pos hw] at h2
        refine ⟨h2.1, ?_⟩
        have h3 := h2.2
        rw [Oper.semAt_eq _ _ _ (fun c => hd i o c e)] at h3 ⊢
        have step : ∀ (r : Result Next), Oper.uponIn F n P o a (wpAnyIn F n P md ops Q fuel (listed.setIfInBounds i true)) Q r → Oper.uponIn (F.inRound l) n P o a (wpAnyIn (F.inRound l) n P md ops Q fuel (listed.setIfInBounds i true)) Q r := by
          intro r hr
          cases r with
          | ok x w' =>
            cases x with
            | value v => exact any_inRound hro hd fuel _ _ _ hr
            | skip => exact any_inRound hro hd fuel _ _ _ hr
            | defer d => exact any_inRound hro hd fuel _ _ _ hr
            | enter f args =>
              refine ⟨hr.1, CallsIn.inRound l (CallsIn.mono hr.2 fun e w'' he => ?_)⟩
              cases e with
              | returned u => exact any_inRound hro hd fuel _ _ _ he
              | panicked c => exact he
              | outgrown => exact he
            | row row args => exact ⟨hr.1, RowsIn.mono hr.2 fun u w'' he => any_inRound hro hd fuel _ _ _ he⟩
            | round l' f tmps assign body =>
              refine ⟨hr.1, RoundIn.mono hr.2 fun e w'' he => ?_⟩
              cases e with
              | returned u => exact any_inRound hro hd fuel _ _ _ he
              | panicked c => exact he
              | outgrown => exact he
            | _ => exact hr
          | halt x w' => cases x <;> exact hr
        exact step _ h3
      · rename_i hw
        rw [if_neg hw] at h2
        exact ⟨h2.1, any_inRound hro hd fuel _ _ _ h2.2⟩

def noDefer (ops : Array Oper) : Bool := ops.toList.all fun o => match o.op with | .defer _ => false | _ => true
theorem noDefer_spec {ops : Array Oper} (h : noDefer ops = true) (j : Nat) (o : Oper) (c : Call) (hj : ops[j]? = some o) : o.op ≠ .defer c := by
  intro e
  have hm : o ∈ ops.toList := by have := Array.mem_of_getElem? hj; simpa using this
  have := List.all_eq_true.1 h o hm
  rw [e] at this
  cases this
end Go.Proofs.Ytoglgdkeknojkaa

/-
  A REGION THAT DRAWS ITS ORDER, AMONG CALLS THAT MAKE MEMORY AND READS OF WHAT THEY MADE: what is held of the world grows from call to call.
-/
import Derived.Test.YtnhphkiklfajnaaCom
import Derived.Deep.RegionHeld
namespace Go.Proofs.Ytnhphkiklfajnaa
open Go.RowKit

theorem wpAnyH_mono {P : Program} {md : Region.Mode} {ops : Array Oper} {Q : Exit → Act → World → Prop} {S S' : World → Prop} (hS : ∀ w, S' w → S w) :
    ∀ (fuel : Nat) (listed : Array Bool) (a : Act) (w : World), wpAnyH P md ops Q S' fuel listed a w → wpAnyH P md ops Q S fuel listed a w
  | 0, _, _, _, h => h
  | fuel + 1, _, _, _, h => ⟨h.1, fun i hi => wpOp_mono (fun a' w' h' => ⟨hS w' h'.1, wpAnyH_mono hS fuel _ a' w' h'.2⟩) (h.2 i hi)⟩
/-- From the world at hand on: all that stands in it stays. -/
theorem held_from {P : Program} {md : Region.Mode} {ops : Array Oper} {Q : Exit → Act → World → Prop} {w0 w1 : World} {fuel : Nat} {listed : Array Bool} {a : Act} (hb : Below w0.heap.size w0 w1)
    (h : Below w1.heap.size w1 w1 → wpAnyH P md ops Q (fun W => Below w1.heap.size w1 W) fuel listed a w1) : wpAnyH P md ops Q (fun W => Below w0.heap.size w0 W) fuel listed a w1 :=
  wpAnyH_mono (fun _ hW => ext_trans hb hW) _ _ _ _ (h (Below.refl _ _))
end Go.Proofs.Ytnhphkiklfajnaa

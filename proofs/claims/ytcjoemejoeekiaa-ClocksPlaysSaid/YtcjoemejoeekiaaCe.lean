/-
  LAYER 26: the heap of times answers the heap's questions; Fix.
-/
import Derived.Test.YtcjoemejoeekiaaCc
import Derived.Deep.RegionHeld3
import Derived.Deep.AppendLies
import Derived.Deep.DeepMust
import Derived.Deep.RegionLaw
namespace Go.Proofs.Ytcjoemejoeekiaa.Cl
open Go.RowKit Go.Maps Que Hp Hg
theorem m_len (v : Value) (w : World) : (method 241 52 v "Len").run Try.prog w = .ok (86, v) w := by kernel_rfl
theorem m_less (v : Value) (w : World) : (method 241 52 v "Less").run Try.prog w = .ok (87, v) w := by kernel_rfl
theorem m_swap (v : Value) (w : World) : (method 241 52 v "Swap").run Try.prog w = .ok (90, v) w := by kernel_rfl
theorem m_push (v : Value) (w : World) : (method 241 52 v "Push").run Try.prog w = .ok (89, v) w := by kernel_rfl
theorem m_pop (v : Value) (w : World) : (method 241 52 v "Pop").run Try.prog w = .ok (88, v) w := by kernel_rfl
theorem as_tm (v : Value) (w : World) : (Instr.typeAssert (.iface 95 v) 20 95 false).run Try.prog w = .ok v w := by kernel_rfl
def IC (B t m n : Nat) (v : Value) (N : Nat) (L : List Tm) (w : World) : Prop := Ct B w t m n v L ∧ L.length = N
theorem hs_any (B t m n : Nat) (v : Value) (N : Nat) (hN : N ≤ 1000) (hn : n ≤ 100000) : HS key (IC B t m n v N) (Far (SV v m)) 52 (.pointer (some ⟨t, 0, none⟩)) (.pointer (some ⟨t, 0, none⟩)) where
  rr := fun w => Far.refl _ w
  rt := fun h k => h.trans k (fun _ _ h => h)
  mlen := fun _ => m_len _ _
  mless := fun _ => m_less _ _
  mswap := fun _ => m_swap _ _
  len := fun h => hlen_any h.1
  less := fun h hi hj => (less_any h.1 hi hj (by have := h.2; omega)).mono fun e w' ⟨he, hw⟩ => ⟨he, ⟨h.1.keep hw, h.2⟩, Far.of_ext hw⟩
  swap := fun h hi hj hne => (swap_any h.1 hi hj (by have := h.2; omega) hn hne).mono fun e w' ⟨he, r, f⟩ => ⟨he, ⟨r, by rw [sx_len]; exact h.2⟩, f⟩
end Go.Proofs.Ytcjoemejoeekiaa.Cl

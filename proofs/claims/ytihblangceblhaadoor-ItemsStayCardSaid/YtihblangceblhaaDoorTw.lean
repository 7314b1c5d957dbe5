/-
  LAYER 31: metrics at once, and in two halves.
-/
import Derived.Test.YtihblangceblhaaDoorTb
import Derived.Test.YtihblangceblhaaDoorBulk
namespace Go.Proofs.YtihblangceblhaaDoor
set_option linter.unusedVariables false
set_option linter.unusedSimpArgs false
open Go.RowKit
theorem updF_append (T : List En) (o : ByteArray) : ∀ (a b : List Mt) (L : List It), updF T o (a ++ b) L = if (updF T o a L).2 = 1 then updF T o b (updF T o a L).1 else updF T o a L
  | [], b, L => rfl
  | f :: a, b, L => by
    rw [List.cons_append, updF, updF]
    by_cases h : (nmF T o f).2 ≠ 1
    · rw [if_pos h, if_pos h, if_neg h]
    · rw [if_neg h, if_neg h]
      cases hp : plc L (nmF T o f).1 with
      | none => rfl
      | some j => exact updF_append T o a b _
theorem bornF_len : ∀ (l : List Mt) (acc : List It), (bornF l acc).1.length ≤ acc.length + l.length
  | [], acc => Nat.le_refl _
  | f :: r, acc => by
    unfold bornF
    split
    · simp
    · split
      · simp
      · have := bornF_len r (acc ++ [itm f])
        simp only [List.length_append, List.length_cons, List.length_nil] at this ⊢
        omega
theorem bornR_len (l : List Mt) : (bornR l).1.length ≤ 32 := by
  unfold bornR
  split
  · simp
  · have := bornF_len l []
    simp only [List.length_nil] at this
    omega
theorem mts_bulk {H : Type} {enc : TypeId × Value → H} {w : World} {fuel : Nat} {a : Option Addr} {len cap : Nat} {x : DataW H × List MemPlace}
    (h : DataW.trod enc Tryd.prog w 0 (fun _ => true) true fuel 22 [.slice a len cap] = some x) (hb : Rows.uptoBulk x.1 ≤ 1048576) : len ≤ 1048576 := by
  rcases Go.Deep.open_slice Tryd.underlying22 h with ⟨hcs, hx⟩ | ⟨a', len', cap', m, n, D, Pl, hcs, -, hl, hm, hmm, rfl, hx⟩
  · simp only [List.cons.injEq, Value.slice.injEq, and_true] at hcs
    omega
  · simp only [List.cons.injEq, Value.slice.injEq, and_true] at hcs
    obtain ⟨-, rfl, -⟩ := hcs
    have := bulks.slice_len hb
    simp only [List.length_map, List.length_range] at this
    omega
theorem new31 (w : World) : Calls Tryd.prog 15 #[] w fun e w' => ∃ g m, e = .returned (.pointer (some ⟨g, 0, none⟩)) ∧ Tb w' g m [] (.map []) ∧ Below w.heap.size w w' :=
  (new_any w).mono fun e w' ⟨he, hT, hb, _⟩ => ⟨_, _, he, hT, hb⟩
end Go.Proofs.YtihblangceblhaaDoor

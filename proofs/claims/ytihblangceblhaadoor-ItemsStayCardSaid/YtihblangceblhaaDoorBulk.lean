/-
  WHAT THE BOUND OF THE SECOND FORM GIVES: each argument's own length is within it.
-/
import Derived.Test.YtihblangceblhaaDoorRows
namespace Go.Proofs.YtihblangceblhaaDoor.bulks
set_option linter.unusedSimpArgs false
set_option linter.unusedVariables false
theorem pos {H : Type} (d : DataW H) : 1 ≤ Rows.uptoBulk d := by
  cases d with
  | lit l => cases l <;> simp [Rows.uptoBulk]
  | _ => simp [Rows.uptoBulk]
theorem of_mem {H : Type} {d : DataW H} : ∀ {l : List (DataW H)}, d ∈ l → Rows.uptoBulk d ≤ Rows.uptoBulkAll l
  | x :: r, h => by
    rw [Rows.uptoBulkAll]
    rcases List.mem_cons.1 h with rfl | h
    · omega
    · have := of_mem h; omega
theorem le {H : Type} {d : DataW H} {l : List (DataW H)} (hk : Rows.uptoSmall H l = true) (h : d ∈ l) : Rows.uptoBulk d ≤ 1048576 :=
  Nat.le_trans (of_mem h) (of_decide_eq_true hk)
theorem count {H : Type} : ∀ l : List (DataW H), l.length ≤ Rows.uptoBulkAll l
  | [] => Nat.zero_le _
  | x :: r => by have := pos x; have := count r; simp only [Rows.uptoBulkAll, List.length_cons]; omega
theorem slice_len {H : Type} {x y : List (DataW H)} (h : Rows.uptoBulk (.slice x y) ≤ 1048576) : x.length + y.length ≤ 1048576 := by
  have := count x
  have := count y
  simp only [Rows.uptoBulk] at h
  omega
theorem string_len {H : Type} {b : List UInt8} (h : Rows.uptoBulk (DataW.lit (H := H) (.string b)) ≤ 1048576) : b.length ≤ 1048576 := by
  simp only [Rows.uptoBulk] at h
  omega
end Go.Proofs.YtihblangceblhaaDoor.bulks

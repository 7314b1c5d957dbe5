/-
  LAYER 34: four hosts, and a fifth.
-/
import Derived.Test.YtaannopaipjcoabHd
namespace Go.Proofs.Ytaannopaipjcoab
open Go.RowKit Go.Maps Go.WideMaps

def xS (more : ByteArray) : ByteArray := { data := #[120] } ++ more
theorem xS_list (more : ByteArray) : (xS more).data.toList = 120 :: more.data.toList := by simp [xS]
theorem xS_ne (more : ByteArray) : (xS more).toList.isEmpty = false := by rw [ByteArray.toList_eq, xS_list]; rfl
theorem xS_len (more : ByteArray) : (xS more).size = more.size + 1 := by
  show (xS more).data.size = more.data.size + 1
  rw [← Array.length_toList, xS_list, List.length_cons, Array.length_toList]
theorem xS_size (more : ByteArray) (h : more.size ≤ 140737488351232) : (xS more).size ≤ maxLen := by
  have := xS_len more
  unfold maxLen; omega
def kn4 : List Host := [(hN 48, false), (hN 49, false), (hN 50, false), (hN 51, false)]
theorem hN_list (c : Nat) : (hN c).data.toList = [104, UInt8.ofNat c] := by simp [hN, strB]
theorem idx_x (more : ByteArray) (l : List Host) (h : ∀ x ∈ l, ∃ c, x.1 = hN c) : idx (xS more) l = none := by
  induction l with
  | nil => rfl
  | cons x r ih =>
    obtain ⟨c, hc⟩ := h x (by simp)
    rw [idx, if_neg (by rw [hc, hN_list, xS_list]; simp), ih (fun y hy => h y (by simp [hy]))]
    rfl
theorem hN_ne (c : Nat) : (hN c).toList.isEmpty = false := by rw [ByteArray.toList_eq, hN_list]; rfl
theorem hN_size (c : Nat) : (hN c).size ≤ maxLen := by
  have : (hN c).size = 2 := by
    show (hN c).data.size = 2
    rw [← Array.length_toList, hN_list]
    rfl
  unfold maxLen; omega
theorem idx_r (r : Nat) (hr : r < 4) : idx (hN (48 + r)) (kn4.take 4) = some r := by
  rcases (by omega : r = 0 ∨ r = 1 ∨ r = 2 ∨ r = 3) with rfl | rfl | rfl | rfl <;> decide +kernel
theorem kn4_names (r : Nat) (hr : r < 4) (up : Bool) : ∀ x ∈ (kn4.set r (hN (48 + r), up)).take 4, ∃ c, x.1 = hN c := by
  intro x hx
  have hx' := List.mem_of_mem_take hx
  rcases List.mem_or_eq_of_mem_set hx' with h | h
  · simp [kn4] at h
    rcases h with rfl | rfl | rfl | rfl
    · exact ⟨48, rfl⟩
    · exact ⟨49, rfl⟩
    · exact ⟨50, rfl⟩
    · exact ⟨51, rfl⟩
  · exact ⟨48 + r, by rw [h]⟩
theorem kn4_all : ∀ x ∈ kn4.take 4, ∃ c, x.1 = hN c := fun x hx => by
  have := kn4_names 0 (by omega) false x (by simpa [kn4] using hx)
  exact this
theorem idx_r2 (r : Nat) (hr : r < 4) (up : Bool) : idx (hN (48 + r)) ((kn4.set r (hN (48 + r), up)).take 4) = some r := by
  rw [List.take_set]
  rw [idx_set up (idx_r r hr)]
  exact idx_r r hr
theorem get_r (r : Nat) (hr : r < 4) (up : Bool) : (kn4.set r (hN (48 + r), up))[r]? = some (hN (48 + r), up) := by
  rw [List.getElem?_set_self]
  exact hr
theorem bad_q (more : ByteArray) : Bad (more ++ { data := #[63] }) := by
  have e : (more ++ { data := #[63] } : ByteArray).toList = more.data.toList ++ [63] := by rw [ByteArray.toList_eq]; simp
  unfold Bad
  rw [e]
  constructor
  · rw [beq_eq_false_iff_ne]
    intro h
    have := congrArg List.getLast? h
    simp at this
  · rw [beq_eq_false_iff_ne]
    intro h
    have := congrArg List.getLast? h
    simp at this
end Go.Proofs.Ytaannopaipjcoab

/-
  LAYER 3: a field's bytes, the document's.
-/
import Derived.Test.YtoglgdkeknojkaaDoorWb
import Derived.Lib.AppendStr
namespace Go.Proofs.YtoglgdkeknojkaaDoor
open Go.RowKit

def txtL (s : ByteArray) : List Nat := s.data.toList.map UInt8.toNat
theorem bl_txt (s : ByteArray) : bl (txtL s) = Lib.strCells s := by unfold bl txtL Lib.strCells; rw [List.map_map]; rfl
theorem txtL_length (s : ByteArray) : (txtL s).length = s.size := by unfold txtL; simp
theorem own_below {w w' : World} {B e size n : Nat} {v : Value} {xs : List Value} (h : w.ownsRow B e size v n xs) (hb : Below w.heap.size w w') : w'.ownsRow B e size v n xs := by
  obtain ⟨h1, hr⟩ := h
  refine ⟨h1, hr.imp id ?_⟩
  rintro ⟨g, cap, cur, hv, hg, hcur, rest⟩
  exact ⟨g, cap, cur, hv, hg, by rw [hb.block g (Array.getElem?_eq_some_iff.1 hcur).1]; exact hcur, rest⟩
theorem grown_ext {B : Nat} {w w' : World} {v : Value} {n : Nat} {xs : List Value} {e : TypeId} (hown : w.ownsRow B e 1 v n xs) (hg : w.grownBy w' v.ownBlock) (hB : B ≤ w.heap.size) : Below B w w' :=
  (Below.refl _ _).grown hg hB (fun k hk => (hown.lt k hk).1)
def tag (f : Fd) : Nat := f.num.toNat * 8 + f.kind.toNat
/-- A field's bytes. -/
def oneL (f : Fd) : List Nat := putL 9 (tag f) ++ midL f ++ txtL f.text
theorem putL_small (n : Nat) (h : n ≤ 18446744073709551615) : (putL 9 n).length ≤ 10 := by
  rw [putL_length 9 n (by omega) h]; exact (sz_le n h).2
theorem txt_nil : txtL ⟨#[]⟩ = [] := rfl
end Go.Proofs.YtoglgdkeknojkaaDoor

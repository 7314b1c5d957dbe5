/-
  LAYER 31: Update, the program's.
-/
import Derived.Test.YtihblangceblhaaDoorMi
namespace Go.Proofs.YtihblangceblhaaDoor
set_option linter.unusedVariables false
set_option linter.unusedSimpArgs false
open Go.RowKit
theorem nmF_num (T : List En) (o : ByteArray) (f : Mt) : (nmF T o f).2 = 1 ∨ (nmF T o f).2 = 7 ∨ (nmF T o f).2 = 6 := by
  unfold nmF
  split
  · exact .inl rfl
  · split
    · exact .inr (.inl rfl)
    · split
      · exact .inl rfl
      · exact .inr (.inr rfl)
theorem updF_num (T : List En) (o : ByteArray) : ∀ (l : List Mt) (acc : List It), (updF T o l acc).2 = 1 ∨ ((updF T o l acc).2 ≠ 1 ∧ (updF T o l acc).1 = [])
  | [], acc => .inl rfl
  | f :: r, acc => by
    unfold updF
    split
    · rename_i h; exact .inr ⟨h, rfl⟩
    · split
      · exact .inr ⟨by simp, rfl⟩
      · exact updF_num T o r _
/-- The program's Update. -/
theorem pupd_any {T : List En} {g m : Nat} {D : DataW Unit} (o : ByteArray) (v : Value) (L : List It) (mv : Value) (l : List Mt) (w : World) (ht : Tabs w) (hv : ItsAt w v L) (hL : L.length ≤ 1000) (hm : MtsAt w mv l) (hok : ∀ f ∈ l, f.ok) (hT : Tb w g m T D) :
    Calls Tryd.prog 18 #[v, mv, .pointer (some ⟨g, 0, none⟩), .string o] w (ToldP (updF T o l L).1 (updF T o l L).2 w) := by
  have CL := Lib.hid (clone_any v L w hv (by omega))
  have UP := Lib.hid (fun v' W (hw : Below w.heap.size w W) (ho : W.ownsRow w.heap.size 37 8 v' L.length (itsAtC L)) => update_any o v' L mv l w W hm hok hT hL hw ho)
  have N := Lib.hid (updF_num T o l L)
  have HT := Lib.hid ht
  obtain ⟨R, hR⟩ : ∃ R, R = updF T o l L := ⟨_, rfl⟩
  rw [← hR] at UP N ⊢
  obtain ⟨X, c⟩ := R
  simp only at N ⊢
  obtain ⟨a1, c1, rfl, -, -⟩ := hv
  obtain ⟨a2, c2, rfl, -, -⟩ := hm
  replace hR := Lib.hid hR
  clear hok hT ht
  go_enter Tryd.func18, Tryd.ntmps18
  go_wp2_with fail
  refine (CL.out).mono ?_
  rintro e w1 ⟨v1, rfl, o1, b1⟩
  have U := Lib.hid (UP.out v1 w1 b1 o1)
  obtain ⟨a3, c3, rfl⟩ := own_slice o1
  clear CL UP o1
  go_wp2_with fail
  refine (U.out).mono ?_
  rintro e w2 ⟨v2, rfl, h2, b2⟩
  have TD := Lib.hid (told_any v2 X c w2 (HT.out.keep b2) h2 N.out)
  generalize errV c = E at *
  obtain ⟨a4, c4, rfl, -, -⟩ := h2
  go_wp2_with fail
  refine (TD.out).mono ?_
  rintro e w3 ⟨v3, rfl, h3, b3⟩
  go_wp2_with fail
  go_ret2
  exact ⟨_, rfl, h3, ext_trans b2 b3⟩
end Go.Proofs.YtihblangceblhaaDoor

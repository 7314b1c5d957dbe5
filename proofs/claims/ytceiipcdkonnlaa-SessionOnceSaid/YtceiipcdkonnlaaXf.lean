/-
  LAYER 25: awake.
-/
import Derived.Test.YtceiipcdkonnlaaXe
namespace Go.Proofs.Ytceiipcdkonnlaa.Ses
open Go.RowKit Que Hp Ids Fli
set_option linter.unusedSimpArgs false
set_option linter.unusedVariables false
def tA : ByteArray := ⟨#[97]⟩
def tT : ByteArray := ⟨#[116]⟩
theorem tA_ne : tA.toList.isEmpty = false := by decide +kernel
theorem tA_right : rightB tA = true := by decide +kernel
def mT (q : Int) : Mg := ⟨tT, ⟨#[]⟩, q, false⟩
set_option maxHeartbeats 4000000 in
set_option maxRecDepth 100000 in
theorem awake25_any (w : World) : Calls Try.prog 17 #[] w (Yes w) := by
  have NW : Hid (Calls Try.prog 8 #[.string ⟨#[97]⟩, .bool false] w fun e w' => ∃ a, e = .returned (.tuple #[.pointer (some ⟨a.s, 0, none⟩), .int .i64 0]) ∧ Ss (fun k => k < w.heap.size) w' a tA false false [] [] [] 0 ∧ Below w.heap.size w w') := Lib.hid (new_ok tA false w (by decide) tA_ne tA_right)
  go_enter Try.func17, Try.ntmps17
  go_wp2_with fail
  refine NW.out.mono ?_
  rintro e w1 ⟨a, rfl, s1, b1⟩
  have DL := Lib.hid (deliver s1 tT ⟨#[]⟩ 1 2 false (.inl rfl) (by omega) (by omega) (by omega) (by omega) (fun k hk => Nat.lt_of_lt_of_le hk b1.size))
  replace b1 := Lib.hid b1
  replace s1 := Lib.hid s1
  clear NW
  go_wp2_with fail
  refine DL.out.mono ?_
  rintro e w2 ⟨v, T', L', l', P, rfl, s2, k2, o2, e2⟩
  simp only [List.length_nil, Nat.reduceLT, if_true, List.nil_append] at s2 e2
  rw [fl_stop (.inl rfl)] at e2
  simp only [Prod.mk.injEq] at e2
  obtain ⟨rfl, rfl, rfl, rfl⟩ := e2
  obtain ⟨va, vc, rfl⟩ := own_slice o2
  have B2 := Lib.hid (b1.out.trans (k2.below b1.out.size (fun k hk => hk)))
  have S2 := s2.weaken (A' := fun k => k < w.heap.size) (fun k hk => .inl hk)
  have AT := Lib.hid (attach S2 (fun k hk => Nat.lt_of_lt_of_le hk B2.out.size))
  replace S2 := Lib.hid S2
  clear s2 k2 o2 DL s1
  go_wp2_with fail
  refine AT.out.mono ?_
  rintro e w3 ⟨v3, T', L', l', P, rfl, s3, k3, o3, e3⟩
  rw [fl_step (by decide)] at e3
  simp only [fl, Prod.mk.injEq] at e3
  obtain ⟨rfl, rfl, rfl, rfl⟩ := e3
  have B3 := Lib.hid (B2.out.trans (k3.below B2.out.size (fun k hk => hk)))
  obtain ⟨g3, c3, rfl⟩ := own_slice' o3 (by decide)
  have q1 : w3.cell? ⟨g3, 1, none⟩ = some (.int .i64 1) := own_get o3 (j := 1) rfl
  have FL := Lib.hid (s_flight s3)
  replace s3 := Lib.hid s3
  replace o3 := Lib.hid o3
  clear k3 AT S2
  go_wp2_with fail
  refine FL.out.mono ?_
  rintro e w4 ⟨v4, rfl, o4, b4⟩
  obtain ⟨va4, vc4, rfl⟩ := own_slice o4
  replace o4 := Lib.hid o4
  have B4 := Lib.hid (B3.out.trans (b4.mono B3.out.size))
  clear b4
  go_wp2_with fail
  go_ret
  exact ⟨rfl, B4.out⟩
end Go.Proofs.Ytceiipcdkonnlaa.Ses

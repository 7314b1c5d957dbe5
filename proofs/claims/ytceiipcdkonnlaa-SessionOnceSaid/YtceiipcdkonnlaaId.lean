/-
  LAYER 21: the heap's methods through the interface; up.
-/
import Derived.Test.YtceiipcdkonnlaaIc
namespace Go.Proofs.Ytceiipcdkonnlaa.Ids
set_option linter.unusedSimpArgs false
set_option linter.unusedVariables false
open Go.RowKit Que Hp
theorem m_len0 (g : Nat) (w : World) : (method 261 120 (.pointer (some ⟨g, 2, none⟩)) "Len").run Try.prog w = ((do let v ← loadVar 110 ⟨g, 2, none⟩; pure (124, v)) : Sem (FuncId × Value)).run Try.prog w := by kernel_rfl
theorem m_len (g : Nat) (w : World) (v : Value) (hc : w.cell? ⟨g, 2, none⟩ = some v) : (method 261 120 (.pointer (some ⟨g, 2, none⟩)) "Len").run Try.prog w = .ok (124, v) w := by
  rw [m_len0]; simp [go_sem, hc]
theorem m_less0 (g : Nat) (w : World) : (method 261 120 (.pointer (some ⟨g, 2, none⟩)) "Less").run Try.prog w = ((do let v ← loadVar 110 ⟨g, 2, none⟩; pure (125, v)) : Sem (FuncId × Value)).run Try.prog w := by kernel_rfl
theorem m_less (g : Nat) (w : World) (v : Value) (hc : w.cell? ⟨g, 2, none⟩ = some v) : (method 261 120 (.pointer (some ⟨g, 2, none⟩)) "Less").run Try.prog w = .ok (125, v) w := by
  rw [m_less0]; simp [go_sem, hc]
theorem m_swap0 (g : Nat) (w : World) : (method 261 120 (.pointer (some ⟨g, 2, none⟩)) "Swap").run Try.prog w = ((do let v ← loadVar 110 ⟨g, 2, none⟩; pure (126, v)) : Sem (FuncId × Value)).run Try.prog w := by kernel_rfl
theorem m_swap (g : Nat) (w : World) (v : Value) (hc : w.cell? ⟨g, 2, none⟩ = some v) : (method 261 120 (.pointer (some ⟨g, 2, none⟩)) "Swap").run Try.prog w = .ok (126, v) w := by
  rw [m_swap0]; simp [go_sem, hc]
theorem m_push (v : Value) (w : World) : (method 261 120 v "Push").run Try.prog w = .ok (128, v) w := by kernel_rfl
theorem m_pop (v : Value) (w : World) : (method 261 120 v "Pop").run Try.prog w = .ok (127, v) w := by kernel_rfl
section
variable {B : Nat} {w w' : World} {g : Nat} {most c : Int} {tv bv : Value} {T : List Bool} {H : List Int}
/-- The heap's order has changed. -/
def Moved (B : Nat) (w : World) (g : Nat) (most : Int) (tv : Value) (T : List Bool) (bv : Value) (H : List Int) (c : Int) (n : Nat) (w' : World) : Prop :=
  ∃ G : List Int, G.Perm H ∧ HeapP G n ∧ (∀ i, n ≤ i → at' G i = at' H i) ∧ Id B w' g most tv T bv G c ∧ Far (SB bv) w w'
set_option maxHeartbeats 4000000 in
set_option maxRecDepth 100000 in
theorem up_any (h : Id B w g most tv T bv H c) {j : Nat} (U : Up H H.length j) (hH : H.length ≤ 100000) :
    Calls Try.prog 92 #[.iface 120 (.pointer (some ⟨g, 2, none⟩)), .int .i64 j] w fun e w' => e = .returned (.tuple #[]) ∧ Moved B w g most tv T bv H c H.length w' := by
  go_enter Try.func92, Try.ntmps92
  go_wp2_with fail
  go_loopw [1] (fun jv wr => ∃ (j : Nat) (G : List Int), jv = .int .i64 (j : Int) ∧ G.Perm H ∧ Up G G.length j ∧ Id B wr g most tv T bv G c ∧ Far (SB bv) w wr) (fun jv _ => (intOf jv).toNat)
  case atStart => exact ⟨j, H, rfl, List.Perm.refl _, U, h, Far.refl _ _⟩
  case round =>
    obtain ⟨j, G, rfl, hp, hu, hi, hf⟩ := hrel
    have hlen := hp.length_eq
    have R : Hid (∀ W, Far (SB bv) wr W → Id B W g most tv T bv G c → HeapP G G.length → Moved B w g most tv T bv H c H.length W) := Lib.hid fun W hW hI hh => ⟨G, hp, by rw [← hlen]; exact hh, fun i hi => by unfold at'; rw [List.getD_eq_getElem?_getD, List.getD_eq_getElem?_getD, List.getElem?_eq_none (by omega), List.getElem?_eq_none (by omega)], hI, hf.trans hW (fun _ _ h => h)⟩
    by_cases hj0 : j = 0
    · subst hj0
      have RR := Lib.hid (R.out wr (Far.refl _ _) hi (hu.done (.inl rfl)))
      clear hp hu hi hf R hlen
      go_wp2_with fail
      go_end0
      exact ⟨rfl, RR.out⟩
    · have j1 : (1 : Int) ≤ (j : Int) := by omega
      have hjn := hu.jn
      have j2 : (j : Int) ≤ 100000 := by omega
      obtain ⟨p, hpe⟩ : ∃ p : Nat, p = (j - 1) / 2 := ⟨_, rfl⟩
      have hq : ((j : Int) - 1) / 2 = (p : Int) := by omega
      have hpj : ((p : Int) == (j : Int)) = false := by simp; omega
      have hpn : p < G.length := by omega
      have kl := m_less g wr _ hi.c2
      have LS := Lib.hid (less_any hi hjn hpn (by omega))
      have ks := Lib.hid (fun n => m_swap g (wr.drewN n) _ (hi.drewN n).c2)
      have SWP := Lib.hid (fun n => swap_any (hi.drewN n) hpn hjn (by omega) (by omega))
      have hnx := Lib.hid (hu.next (Nat.le_refl _) (by omega))
      have hpm := Lib.hid ((sw_perm hpn hjn).trans hp)
      have hi2 := Lib.hid hi
      have hu2 := Lib.hid hu
      have hf2 := Lib.hid hf
      replace hpe := Lib.hid hpe
      by_cases hlt : at' G j < at' G p
      · clear hp hu hi hf hlen R
        go_wp2_with (go_at_call 125; refine LS.out.mono ?_; rintro e w2 ⟨n, rfl, rfl⟩; have ks' := ks.out n)
        go_at_call 126
        refine (SWP.out _).mono ?_
        rintro e w3 ⟨rfl, i3, f3⟩
        have N : Hid (Up (sw G p j) (sw G p j).length p) := Lib.hid (by
          have := hnx.out (by rw [← hpe.out]; exact hlt)
          rw [← hpe.out] at this
          rw [sw_len]; exact this)
        have I3 := Lib.hid i3
        have F3 := Lib.hid ((hf2.out.trans (Far.of_ext (S := SB bv) (ext_drewN wr n)) (fun _ _ h => h)).trans f3 (fun _ _ h => h))
        clear i3 f3
        go_wp2_with fail
        go_roundw
        case rel => exact ⟨p, _, rfl, hpm.out, N.out, I3.out, F3.out⟩
        case measure => have := hpe.out; simp [intOf]; omega
      · have hd : decide (at' G j < at' G p) = false := decide_eq_false hlt
        have RR := Lib.hid (fun n => R.out (wr.drewN n) (Far.of_ext (ext_drewN _ _)) (hi.drewN n) (hu.done (.inr (by rw [← hpe.out]; omega))))
        clear hp hu hi hf hlen R
        go_wp2_with (go_at_call 125; refine LS.out.mono ?_; rintro e w2 ⟨n, rfl, rfl⟩; have ks' := ks.out n)
        go_end0
        exact ⟨rfl, RR.out _⟩
end
end Go.Proofs.Ytceiipcdkonnlaa.Ids

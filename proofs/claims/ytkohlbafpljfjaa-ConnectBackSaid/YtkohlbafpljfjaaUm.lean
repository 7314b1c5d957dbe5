/-
  LAYER 4: what is laid, of both sides alike.
-/
import Derived.Test.YtkohlbafpljfjaaUl
namespace Go.Proofs.Ytkohlbafpljfjaa
set_option linter.unusedSimpArgs false
set_option linter.unusedVariables false
open Go.RowKit

/-- What comes of a text that is laid: an error, or its bytes. -/
def Made (l : Option (List Nat)) (err : Int) (w : World) (e : Ending) (w' : World) : Prop :=
  ∃ v, e = .returned (.tuple #[v, .int .i64 err]) ∧ BytesAt w' v (l.getD []) ∧ Below w.heap.size w w'
theorem made_nil {P : Program} {f : FuncId} {args : Array Value} {w : World} {err : Int} (h : Calls P f args w fun e w' => e = .returned (.tuple #[.slice none 0 0, .int .i64 err]) ∧ w = w') : Calls P f args w (Made none err w) :=
  h.mono fun e w' ⟨he, hw⟩ => ⟨_, he, ⟨none, 0, rfl, ⟨by simp, fun _ => rfl⟩, .inl rfl⟩, by subst hw; exact Below.refl _ _⟩
theorem made_nilb {P : Program} {f : FuncId} {args : Array Value} {w : World} {err : Int} (h : Calls P f args w fun e w' => e = .returned (.tuple #[.slice none 0 0, .int .i64 err]) ∧ Below w.heap.size w w') : Calls P f args w (Made none err w) :=
  h.mono fun e w' ⟨he, hw⟩ => ⟨_, he, ⟨none, 0, rfl, ⟨by simp, fun _ => rfl⟩, .inl rfl⟩, hw⟩
theorem made_ok {P : Program} {f : FuncId} {args : Array Value} {w : World} {s : ByteArray} (h : Calls P f args w (PutPost s w)) : Calls P f args w (Made (some (rawL s)) 0 w) :=
  h.mono fun e w' ⟨v, he, ho, hw⟩ => ⟨v, he, BytesAt.of_own ho, hw⟩
def laidL (s : ByteArray) : Option (List Nat) := if 65535 < s.size then none else some (rawL s)
def laidE (s : ByteArray) : Int := if 65535 < s.size then 3 else 0
def textL (s : ByteArray) : Option (List Nat) := if 65535 < s.size then none else if rightB s = true then some (rawL s) else none
def textE (s : ByteArray) : Int := if 65535 < s.size then 3 else if rightB s = true then 0 else 9
theorem m_put (s : ByteArray) (w : World) : Calls Try.prog 25 #[.string s] w (Made (textL s) (textE s) w) := by
  unfold textL textE
  by_cases h : 65535 < s.size
  · rw [if_pos h, if_pos h]; exact made_nil (put_long s w h)
  · rw [if_neg h, if_neg h]
    cases hr : rightB s
    · exact made_nilb (put_bad s w (by omega) hr)
    · exact made_ok (put_ok s w (by omega) hr)
theorem m_rput (s : ByteArray) (w : World) : Calls Try.prog 27 #[.string s] w (Made (textL s) (textE s) w) := by
  unfold textL textE
  by_cases h : 65535 < s.size
  · rw [if_pos h, if_pos h]; exact made_nil (rput_long s w h)
  · rw [if_neg h, if_neg h]
    cases hr : rightB s
    · exact made_nilb (rput_bad s w (by omega) hr)
    · exact made_ok (rput_ok s w (by omega) hr)
theorem m_raw (s : ByteArray) (w : World) : Calls Try.prog 47 #[.string s] w (Made (laidL s) (laidE s) w) := by
  unfold laidL laidE
  by_cases h : 65535 < s.size
  · rw [if_pos h, if_pos h]; exact made_nil (putraw_long s w h)
  · rw [if_neg h, if_neg h]; exact made_ok (putraw_any s w (by omega))
theorem m_rraw (s : ByteArray) (w : World) (hs : s.size ≤ 140737488355328) : Calls Try.prog 51 #[.string s] w (Made (laidL s) (laidE s) w) := by
  unfold laidL laidE
  by_cases h : 65535 < s.size
  · rw [if_pos h, if_pos h]; exact made_nil (rputraw_long s w h hs)
  · rw [if_neg h, if_neg h]; exact made_ok (rputraw_any s w (by omega))
theorem row_of {w : World} {a : Option Addr} {len cap : Nat} {l : List Nat} (h : BytesAt w (.slice a len cap) l) {W : World} (hb : Below w.heap.size w W) : BytesAt W (.slice a len cap) l := h.keep hb (Nat.le_refl _)
/-- Two numbers of two bytes are made alike. -/
theorem puts (n : Int) (b : -9223372036854775808 ≤ n ∧ n ≤ 9223372036854775807) : ∃ (l : List Nat) (x : Int), ∀ f, f = 46 ∨ f = 49 → ∀ w, Calls Try.prog f #[.int .i64 n] w fun e w' => ∃ v, e = .returned (.tuple #[v, .int .i64 x]) ∧ BytesAt w' v l ∧ Below w.heap.size w w' := by
  by_cases h : n < 0 ∨ 65535 < n
  · refine ⟨[], 1, fun f hf w => ?_⟩
    rcases hf with rfl | rfl
    · exact (put2_err n w h b).mono fun e w' ⟨he, hw⟩ => ⟨_, he, ⟨none, 0, rfl, ⟨by simp, fun _ => rfl⟩, .inl rfl⟩, by subst hw; exact Below.refl _ _⟩
    · exact (rput2_err n w h b).mono fun e w' ⟨he, hw⟩ => ⟨_, he, ⟨none, 0, rfl, ⟨by simp, fun _ => rfl⟩, .inl rfl⟩, by subst hw; exact Below.refl _ _⟩
  · obtain ⟨n, rfl⟩ := Int.eq_ofNat_of_zero_le (show 0 ≤ n by omega)
    have key : ∀ w : World, BytesAt (w.alloc (.cells #[.int .u8 ((n / 256 : Nat) : Int), .int .u8 ((n % 256 : Nat) : Int)] 5)) (.slice (some ⟨w.heap.size, 0, none⟩) 2 2) [n / 256, n % 256] := by
      intro w
      refine ⟨some ⟨w.heap.size, 0, none⟩, 2, rfl, ⟨by simp, fun h => by cases h⟩, .inr ⟨w.heap.size, 0, rfl, by simp, fun i hi => ?_⟩⟩
      have : i = 0 ∨ i = 1 := by simp at hi; omega
      rcases this with rfl | rfl
      · rw [World.cell?_alloc_at _ _ _ _ rfl]; rfl
      · rw [World.cell?_alloc_at _ _ _ _ rfl]; rfl
    refine ⟨[n / 256, n % 256], 0, fun f hf w => ?_⟩
    rcases hf with rfl | rfl
    · exact (put2_any n w (by omega)).mono fun e w' ⟨he, hw⟩ => ⟨_, he, by rw [hw]; exact key w, by rw [hw]; exact ext_alloc _ _⟩
    · exact (rput2_any n w (by omega)).mono fun e w' ⟨he, hw⟩ => ⟨_, he, by rw [hw]; exact key w, by rw [hw]; exact ext_alloc _ _⟩
end Go.Proofs.Ytkohlbafpljfjaa

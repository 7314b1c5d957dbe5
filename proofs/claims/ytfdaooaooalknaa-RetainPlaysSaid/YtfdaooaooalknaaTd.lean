/-
  LAYER 18: Match, Wide, Covers: the program's; awake.
-/
import Derived.Test.YtfdaooaooalknaaTc
import Derived.Test.YtfdaooaooalknaaIrf
import Derived.Test.YtfdaooaooalknaaSh
namespace Go.Proofs.Ytfdaooaooalknaa
set_option linter.unusedSimpArgs false
set_option linter.unusedVariables false
open Go.RowKit

def matchB (f n : ByteArray) : Bool := filterB f && (nameB n && coverB f n)
def wideB (f : ByteArray) : Bool := filterB f && !nameB f
def coversB (a b : ByteArray) : Bool := filterB a && (filterB b && coverB a b)
theorem part_size {s x : ByteArray} (hx : x ∈ spS s) : x.size ≤ s.size := by
  obtain ⟨p, hp, rfl⟩ := List.mem_map.1 hx
  rw [bs_size]
  have := spl_sum _ p hp
  have h2 : s.data.toList.length = s.size := Array.length_toList
  omega
theorem nam_any (s : ByteArray) (w : World) (hs : s.size ≤ 1048576) : Calls Try.prog 18 #[.string s] w (BoolIs (nameB s) w) := name_any s w hs (fun _ => ca_all iRune s hs)
theorem fil_any (s : ByteArray) (w : World) (hs : s.size ≤ 1048576) : Calls Try.prog 25 #[.string s] w (BoolIs (filterB s) w) := filter_any s w hs (fun _ x hx => ca_all iRune x (Nat.le_trans (part_size hx) hs))
set_option maxHeartbeats 1000000 in
set_option maxRecDepth 100000 in
theorem match_any (f n : ByteArray) (w : World) (hf : f.size ≤ 1048576) (hn : n.size ≤ 1048576) : Calls Try.prog 16 #[.string f, .string n] w (BoolIs (matchB f n) w) := by
  have F := Lib.hid (fun w => fil_any f w hf)
  have G := Lib.hid (fun w => nam_any n w hn)
  have C := Lib.hid (fun w => covers_any f n w hf hn)
  unfold matchB
  generalize filterB f = a at *
  generalize nameB n = b at *
  generalize coverB f n = c at *
  go_enter Try.func16, Try.ntmps16
  go_wp2_with fail
  refine (F.out _).mono ?_
  rintro e w1 ⟨rfl, b1⟩
  replace b1 := Lib.hid b1
  cases a with
  | false =>
    go_wp2_with fail
    go_ret
    exact ⟨rfl, b1.out⟩
  | true =>
    go_wp2_with fail
    refine (G.out _).mono ?_
    rintro e w2 ⟨rfl, b2⟩
    replace b2 := Lib.hid (ext_trans b1.out b2)
    cases b with
    | false =>
      go_wp2_with fail
      go_ret
      exact ⟨rfl, b2.out⟩
    | true =>
      go_wp2_with fail
      refine (C.out _).mono ?_
      rintro e w3 ⟨rfl, b3⟩
      replace b3 := Lib.hid (ext_trans b2.out b3)
      go_wp2_with fail
      go_ret
      exact ⟨rfl, b3.out⟩
theorem m1 : matchB ⟨#[97, 47, 35]⟩ ⟨#[97]⟩ = true := by decide +kernel
theorem m2 : matchB ⟨#[97, 47, 43]⟩ ⟨#[97, 47, 98]⟩ = true := by decide +kernel
theorem m3 : matchB ⟨#[97, 47, 43]⟩ ⟨#[97]⟩ = false := by decide +kernel
theorem m4 : matchB ⟨#[35]⟩ ⟨#[36, 83, 89, 83]⟩ = false := by decide +kernel
theorem m5 : wideB ⟨#[43]⟩ = true := by decide +kernel
end Go.Proofs.Ytfdaooaooalknaa

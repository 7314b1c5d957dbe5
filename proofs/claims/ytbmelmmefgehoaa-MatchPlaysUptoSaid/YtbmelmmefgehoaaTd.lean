/-
  LAYER 18: Match, Wide, Covers: the program's; awake.
-/
import Derived.Test.YtbmelmmefgehoaaTc
import Derived.Test.YtbmelmmefgehoaaIrf
import Derived.Test.YtbmelmmefgehoaaSh
namespace Go.Proofs.Ytbmelmmefgehoaa
open Go.RowKit

def matchB (f n : ByteArray) : Bool := filterB f && (nameB n && coverB f n)
def wideB (f : ByteArray) : Bool := filterB f && !nameB f
def coversB (a b : ByteArray) : Bool := filterB a && (filterB b && coverB a b)
theorem part_size {s x : ByteArray} (hx : x ∈ spS s) : x.size ≤ s.size := by
  obtain ⟨p, hp, rfl⟩ := List.mem_map.1 hx
  rw [bs_size]
  have := spl_sum _ p hp
  have h2 : s.data.toList.length = s.size := Array.length_toList
  omega
theorem nam_any (s : ByteArray) (w : World) (hs : s.size ≤ 1048576) : Calls Try.prog 14 #[.string s] w (BoolIs (nameB s) w) := name_any s w hs (fun _ => ca_all iRune s hs)
theorem fil_any (s : ByteArray) (w : World) (hs : s.size ≤ 1048576) : Calls Try.prog 15 #[.string s] w (BoolIs (filterB s) w) := filter_any s w hs (fun _ x hx => ca_all iRune x (Nat.le_trans (part_size hx) hs))
set_option maxHeartbeats 1000000 in
set_option maxRecDepth 100000 in
theorem match_any (f n : ByteArray) (w : World) (hf : f.size ≤ 1048576) (hn : n.size ≤ 1048576) : Calls Try.prog 7 #[.string f, .string n] w (BoolIs (matchB f n) w) := by
  have F := Lib.hid (fun w => fil_any f w hf)
  have G := Lib.hid (fun w => nam_any n w hn)
  have C := Lib.hid (fun w => covers_any f n w hf hn)
  unfold matchB
  generalize filterB f = a at *
  generalize nameB n = b at *
  generalize coverB f n = c at *
  go_enter Try.func7, Try.ntmps7
  go_wp2_with fail
  refine (F.out _).mono ?_
  rintro e w1 ⟨rfl, b1⟩
  replace b1 := Lib.hid b1
  cases a with
  | false =>
    go_wp2_with fail
    go_ret
    exact ⟨rfl, b1.out⟩
  | true =>
    go_wp2_with fail
    refine (G.out _).mono ?_
    rintro e w2 ⟨rfl, b2⟩
    replace b2 := Lib.hid (ext_trans b1.out b2)
    cases b with
    | false =>
      go_wp2_with fail
      go_ret
      exact ⟨rfl, b2.out⟩
    | true =>
      go_wp2_with fail
      refine (C.out _).mono ?_
      rintro e w3 ⟨rfl, b3⟩
      replace b3 := Lib.hid (ext_trans b2.out b3)
      go_wp2_with fail
      go_ret
      exact ⟨rfl, b3.out⟩
set_option maxHeartbeats 1000000 in
set_option maxRecDepth 100000 in
theorem cover_any (f n : ByteArray) (w : World) (hf : f.size ≤ 1048576) (hn : n.size ≤ 1048576) : Calls Try.prog 11 #[.string f, .string n] w (BoolIs (coversB f n) w) := by
  have F := Lib.hid (fun w => fil_any f w hf)
  have G := Lib.hid (fun w => fil_any n w hn)
  have C := Lib.hid (fun w => covers_any f n w hf hn)
  unfold coversB
  generalize filterB f = a at *
  generalize filterB n = b at *
  generalize coverB f n = c at *
  go_enter Try.func11, Try.ntmps11
  go_wp2_with fail
  refine (F.out _).mono ?_
  rintro e w1 ⟨rfl, b1⟩
  replace b1 := Lib.hid b1
  cases a with
  | false =>
    go_wp2_with fail
    go_ret
    exact ⟨rfl, b1.out⟩
  | true =>
    go_wp2_with fail
    refine (G.out _).mono ?_
    rintro e w2 ⟨rfl, b2⟩
    replace b2 := Lib.hid (ext_trans b1.out b2)
    cases b with
    | false =>
      go_wp2_with fail
      go_ret
      exact ⟨rfl, b2.out⟩
    | true =>
      go_wp2_with fail
      refine (C.out _).mono ?_
      rintro e w3 ⟨rfl, b3⟩
      replace b3 := Lib.hid (ext_trans b2.out b3)
      go_wp2_with fail
      go_ret
      exact ⟨rfl, b3.out⟩
set_option maxHeartbeats 1000000 in
set_option maxRecDepth 100000 in
theorem wide_any (f : ByteArray) (w : World) (hf : f.size ≤ 1048576) : Calls Try.prog 9 #[.string f] w (BoolIs (wideB f) w) := by
  have F := Lib.hid (fun w => fil_any f w hf)
  have G := Lib.hid (fun w => nam_any f w hf)
  unfold wideB
  generalize filterB f = a at *
  generalize nameB f = b at *
  go_enter Try.func9, Try.ntmps9
  go_wp2_with fail
  refine (F.out _).mono ?_
  rintro e w1 ⟨rfl, b1⟩
  replace b1 := Lib.hid b1
  cases a with
  | false =>
    go_wp2_with fail
    go_ret
    exact ⟨rfl, b1.out⟩
  | true =>
    go_wp2_with fail
    refine (G.out _).mono ?_
    rintro e w2 ⟨rfl, b2⟩
    replace b2 := Lib.hid (ext_trans b1.out b2)
    go_wp2_with fail
    go_ret
    exact ⟨rfl, b2.out⟩
theorem m1 : matchB ⟨#[97, 47, 35]⟩ ⟨#[97]⟩ = true := by decide +kernel
theorem m2 : matchB ⟨#[97, 47, 43]⟩ ⟨#[97, 47, 98]⟩ = true := by decide +kernel
theorem m3 : matchB ⟨#[97, 47, 43]⟩ ⟨#[97]⟩ = false := by decide +kernel
theorem m4 : matchB ⟨#[35]⟩ ⟨#[36, 83, 89, 83]⟩ = false := by decide +kernel
theorem m5 : wideB ⟨#[43]⟩ = true := by decide +kernel
set_option maxHeartbeats 1000000 in
set_option maxRecDepth 100000 in
theorem awake18_any (w : World) : Calls Try.prog 13 #[] w (Yes' w) := by
  have M1 := Lib.hid (fun w => match_any ⟨#[97, 47, 35]⟩ ⟨#[97]⟩ w (by decide) (by decide))
  have M2 := Lib.hid (fun w => match_any ⟨#[97, 47, 43]⟩ ⟨#[97, 47, 98]⟩ w (by decide) (by decide))
  have M3 := Lib.hid (fun w => match_any ⟨#[97, 47, 43]⟩ ⟨#[97]⟩ w (by decide) (by decide))
  have M4 := Lib.hid (fun w => match_any ⟨#[35]⟩ ⟨#[36, 83, 89, 83]⟩ w (by decide) (by decide))
  have M5 := Lib.hid (fun w => wide_any ⟨#[43]⟩ w (by decide))
  rw [m1] at M1
  rw [m2] at M2
  rw [m3] at M3
  rw [m4] at M4
  rw [m5] at M5
  go_enter Try.func13, Try.ntmps13
  go_wp2_with fail
  refine (M1.out _).mono ?_
  rintro e w1 ⟨rfl, b1⟩
  replace b1 := Lib.hid b1
  go_wp2_with fail
  refine (M2.out _).mono ?_
  rintro e w2 ⟨rfl, b2⟩
  replace b2 := Lib.hid (ext_trans b1.out b2)
  go_wp2_with fail
  refine (M3.out _).mono ?_
  rintro e w3 ⟨rfl, b3⟩
  replace b3 := Lib.hid (ext_trans b2.out b3)
  go_wp2_with fail
  refine (M4.out _).mono ?_
  rintro e w4 ⟨rfl, b4⟩
  replace b4 := Lib.hid (ext_trans b3.out b4)
  go_wp2_with fail
  refine (M5.out _).mono ?_
  rintro e w5 ⟨rfl, b5⟩
  replace b5 := Lib.hid (ext_trans b4.out b5)
  go_wp2_with fail
  go_ret
  exact ⟨rfl, b5.out⟩
end Go.Proofs.Ytbmelmmefgehoaa

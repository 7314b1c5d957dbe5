/-
  LAYER 28: Open.
-/
import Derived.Test.YtdcfenkllpfbaaaBi
namespace Go.Proofs.Ytdcfenkllpfbaaa.Sns
set_option linter.unusedVariables false
set_option linter.unusedSimpArgs false
open Go.Proofs.Ytdcfenkllpfbaaa
open Go.RowKit Que
variable {w : World} {t : Nat} {P : List (Option Nat)}
set_option maxHeartbeats 8000000 in
theorem open_bad (h : Sp w t P) (cl : ByteArray) (cn : Bool) (hb : cl.size = 0 ∨ 32 < cl.size ∨ rightB cl = false) (hz : cl.size ≤ 140737488351232) :
    Calls Try.prog 7 #[.pointer (some ⟨t, 0, none⟩), .string cl, .bool cn] w fun e w' => e = .returned (.tuple #[.int .i64 0, .bool false, .int .i64 1]) ∧ Below w.heap.size w w' := by
  have N := Lib.hid (none_no h)
  have B := Lib.hid (new_bad cl cn w hb hz)
  clear h hb
  go_enter Try.func7, Try.ntmps7
  go_wp2_with fail
  refine N.out.mono ?_
  rintro e w1 ⟨rfl, rfl⟩
  go_wp2_with fail
  refine B.out.mono ?_
  rintro e w1 ⟨rfl, b1⟩
  replace b1 := Lib.hid b1
  go_wp2_with fail
  go_ret3
  exact ⟨rfl, b1.out⟩
set_option maxHeartbeats 8000000 in
/-- It goes on: neither it nor who comes is clean. -/
theorem open_on (h : Sp w t P) (cl : ByteArray) (nm : Nat → ByteArray) (hN : ∀ x ∈ tkS P 0, ∃ p g cn, Sn w x.2 p g (nm x.2) cn) (hs : cl.size ≤ 32) (hne : cl.toList.isEmpty = false) (hr : rightB cl = true)
    {i s p g : Nat} (hf : fnd nm cl (tkS P 0) = ((i : Int), true)) (hi : P[i]? = some (some s)) (hS : Sn w s p g cl false) :
    Calls Try.prog 7 #[.pointer (some ⟨t, 0, none⟩), .string cl, .bool false] w fun e w' => e = .returned (.tuple #[.int .i64 (i : Int), .bool true, .int .i64 0]) ∧ Below w.heap.size w w' := by
  have N := Lib.hid (none_no h)
  have B := Lib.hid (new_ok cl false w hs hne hr)
  have F : Hid (∀ W, Below w.heap.size w W → Calls Try.prog 8 #[.pointer (some ⟨t, 0, none⟩), .string cl] W fun e w' => e = .returned (.tuple #[.int .i64 (i : Int), .bool true]) ∧ Below W.heap.size W w') := Lib.hid fun W hb => (find_any t P cl W (h.ext hb) nm (fun x hx => by obtain ⟨p, g, cn, hS⟩ := hN x hx; exact ⟨p, g, cn, hS.ext hb⟩)).mono (fun e w' he => by obtain ⟨h1, h2⟩ := he; rw [hf] at h1; exact ⟨h1, h2⟩)
  have A : Hid (∀ W, Below w.heap.size w W → Calls Try.prog 9 #[.pointer (some ⟨t, 0, none⟩), .int .i64 (i : Int)] W fun e w' => e = .returned (.pointer (some ⟨s, 0, none⟩)) ∧ W = w') := Lib.hid fun W hb => at_in (h.ext hb) hi
  have C : Hid (∀ W, Below w.heap.size w W → Calls Try.prog 17 #[.pointer (some ⟨s, 0, none⟩)] W fun e w' => e = .returned (.bool false) ∧ W = w') := Lib.hid fun W hb => s_clean (hS.ext hb)
  clear h hN hf hS hi hr hs hne
  go_enter Try.func7, Try.ntmps7
  go_wp2_with fail
  refine N.out.mono ?_
  rintro e w1 ⟨rfl, rfl⟩
  go_wp2_with fail
  refine B.out.mono ?_
  rintro e w1 ⟨s1, p1, g1, c1, rfl, -, -, b1, -, -, -, -⟩
  have FF := Lib.hid (F.out _ b1)
  replace b1 := Lib.hid b1
  clear B F
  go_wp2_with fail
  refine FF.out.mono ?_
  rintro e w2 ⟨rfl, b2⟩
  have b12 := Lib.hid (b1.out.trans (b2.mono b1.out.size))
  have AA := Lib.hid (A.out _ b12.out)
  have CC := Lib.hid (C.out _ b12.out)
  clear FF b2 b1 A C
  go_wp2_with fail
  refine AA.out.mono ?_
  rintro e w3 ⟨rfl, rfl⟩
  go_wp2_with fail
  refine CC.out.mono ?_
  rintro e w3 ⟨rfl, rfl⟩
  go_wp2_with fail
  go_ret3
  exact ⟨rfl, b12.out⟩
/-- A new session in place i. -/
def NewAt (w : World) (t : Nat) (P : List (Option Nat)) (cl : ByteArray) (cn : Bool) (i : Nat) (w' : World) : Prop :=
  ∃ s p g c, Sp w' t (P.set i (some s)) ∧ Sn w' s p g cl cn ∧ Quu.Qu w' g c 16 [] 0 ∧ Far (fun k => k = t) w w' ∧ w.heap.size ≤ s ∧ w.heap.size ≤ p ∧ w.heap.size ≤ g ∧ w.heap.size ≤ c
theorem Qu.far {S : Nat → Prop} {w w' : World} {g c cap : Nat} {l : List Mg} {lost : Int} (q : Quu.Qu w g c cap l lost) (F : Far S w w') (h1 : ¬ S g) (h2 : ¬ S c) : Quu.Qu w' g c cap l lost := by
  obtain ⟨s, r, hc⟩ := q.ch
  exact ⟨(F.block g q.lt h1).trans q.row, s, r, (F.block c q.clt h2).trans hc⟩
set_option maxHeartbeats 8000000 in
/-- A new one, in the least place that is free. -/
theorem open_free (h : Sp w t P) (cl : ByteArray) (cn : Bool) (nm : Nat → ByteArray) (hN : ∀ x ∈ tkS P 0, ∃ p g cn, Sn w x.2 p g (nm x.2) cn) (hs : cl.size ≤ 32) (hne : cl.toList.isEmpty = false) (hr : rightB cl = true)
    {i : Nat} (hf : fnd nm cl (tkS P 0) = (0, false)) (hi : fr P 0 = some i) (h8 : i < 8) :
    Calls Try.prog 7 #[.pointer (some ⟨t, 0, none⟩), .string cl, .bool cn] w fun e w' => e = .returned (.tuple #[.int .i64 (i : Int), .bool false, .int .i64 0]) ∧ NewAt w t P cl cn i w' := by
  have N := Lib.hid (none_no h)
  have B := Lib.hid (new_ok cl cn w hs hne hr)
  have F : Hid (∀ W, Below w.heap.size w W → Calls Try.prog 8 #[.pointer (some ⟨t, 0, none⟩), .string cl] W fun e w' => e = .returned (.tuple #[.int .i64 0, .bool false]) ∧ Below W.heap.size W w') := Lib.hid fun W hb => (find_any t P cl W (h.ext hb) nm (fun x hx => by obtain ⟨p, g, cn, hS⟩ := hN x hx; exact ⟨p, g, cn, hS.ext hb⟩)).mono (fun e w' he => by obtain ⟨h1, h2⟩ := he; rw [hf] at h1; exact ⟨h1, h2⟩)
  have A : Hid (∀ W, Below w.heap.size w W → Calls Try.prog 26 #[.pointer (some ⟨t, 0, none⟩)] W fun e w' => e = .returned (.tuple #[.int .i64 (i : Int), .int .i64 0]) ∧ W = w') := Lib.hid fun W hb => (free_any (h.ext hb)).mono (fun e w' he => by rw [hi] at he; exact he)
  have H := Lib.hid h
  have hlt := h.lt
  have h8' : (i : Int) < 8 := by omega
  clear h hN hf hi hr hs hne
  go_enter Try.func7, Try.ntmps7
  go_wp2_with fail
  refine N.out.mono ?_
  rintro e w1 ⟨rfl, rfl⟩
  go_wp2_with fail
  refine B.out.mono ?_
  rintro e w1 ⟨s1, p1, g1, c1, rfl, n1, q1, b1, z1, z2, z3, z4⟩
  have FF := Lib.hid (F.out _ b1)
  replace b1 := Lib.hid b1
  clear B F
  go_wp2_with fail
  refine FF.out.mono ?_
  rintro e w2 ⟨rfl, b2⟩
  have b12 := Lib.hid (b1.out.trans (b2.mono b1.out.size))
  have N2 := Lib.hid (n1.ext b2)
  have Q2 := Lib.hid (q1.keep b2)
  have AA := Lib.hid (A.out _ b12.out)
  have TT := Lib.hid (take_any (H.out.ext b12.out) h8 s1)
  clear FF b2 b1 A n1 q1
  go_wp2_with fail
  refine AA.out.mono ?_
  rintro e w3 ⟨rfl, rfl⟩
  go_wp2_with fail
  refine TT.out.mono ?_
  intro e w3 hs3
  have hsp := Lib.hid (hs3.sp (H.out.ext b12.out) h8)
  obtain ⟨rfl, -⟩ := hs3
  go_wp2_with fail
  go_ret3
  exact ⟨rfl, s1, p1, g1, c1, hsp.out.1, N2.out.far hsp.out.2 (by omega) (by omega), Qu.far Q2.out hsp.out.2 (by omega) (by omega), (Far.of_ext b12.out).trans hsp.out.2 (fun k _ hk => hk), z1, z2, z3, z4⟩
set_option maxHeartbeats 8000000 in
/-- A new one in its own place: it, or who comes, is clean. -/
theorem open_anew (h : Sp w t P) (cl : ByteArray) (cn : Bool) (nm : Nat → ByteArray) (hN : ∀ x ∈ tkS P 0, ∃ p g cn, Sn w x.2 p g (nm x.2) cn) (hs : cl.size ≤ 32) (hne : cl.toList.isEmpty = false) (hr : rightB cl = true)
    {i s0 p0 g0 : Nat} {cn0 : Bool} (hf : fnd nm cl (tkS P 0) = ((i : Int), true)) (hi : P[i]? = some (some s0)) (hS : Sn w s0 p0 g0 cl cn0) (hcl : cn = true ∨ cn0 = true) (h8 : i < 8) :
    Calls Try.prog 7 #[.pointer (some ⟨t, 0, none⟩), .string cl, .bool cn] w fun e w' => e = .returned (.tuple #[.int .i64 (i : Int), .bool false, .int .i64 0]) ∧ NewAt w t P cl cn i w' := by
  have N := Lib.hid (none_no h)
  have B := Lib.hid (new_ok cl cn w hs hne hr)
  have F : Hid (∀ W, Below w.heap.size w W → Calls Try.prog 8 #[.pointer (some ⟨t, 0, none⟩), .string cl] W fun e w' => e = .returned (.tuple #[.int .i64 (i : Int), .bool true]) ∧ Below W.heap.size W w') := Lib.hid fun W hb => (find_any t P cl W (h.ext hb) nm (fun x hx => by obtain ⟨p, g, cn, hS⟩ := hN x hx; exact ⟨p, g, cn, hS.ext hb⟩)).mono (fun e w' he => by obtain ⟨h1, h2⟩ := he; rw [hf] at h1; exact ⟨h1, h2⟩)
  have A : Hid (∀ W, Below w.heap.size w W → Calls Try.prog 9 #[.pointer (some ⟨t, 0, none⟩), .int .i64 (i : Int)] W fun e w' => e = .returned (.pointer (some ⟨s0, 0, none⟩)) ∧ W = w') := Lib.hid fun W hb => at_in (h.ext hb) hi
  have C : Hid (∀ W, Below w.heap.size w W → Calls Try.prog 17 #[.pointer (some ⟨s0, 0, none⟩)] W fun e w' => e = .returned (.bool cn0) ∧ W = w') := Lib.hid fun W hb => s_clean (hS.ext hb)
  have H := Lib.hid h
  have hlt := h.lt
  have h8' : (i : Int) < 8 := by omega
  clear h hN hf hi hr hs hne hS
  go_enter Try.func7, Try.ntmps7
  go_wp2_with fail
  refine N.out.mono ?_
  rintro e w1 ⟨rfl, rfl⟩
  go_wp2_with fail
  refine B.out.mono ?_
  rintro e w1 ⟨s1, p1, g1, c1, rfl, n1, q1, b1, z1, z2, z3, z4⟩
  have FF := Lib.hid (F.out _ b1)
  replace b1 := Lib.hid b1
  clear B F
  go_wp2_with fail
  refine FF.out.mono ?_
  rintro e w2 ⟨rfl, b2⟩
  have b12 := Lib.hid (b1.out.trans (b2.mono b1.out.size))
  have N2 := Lib.hid (n1.ext b2)
  have Q2 := Lib.hid (q1.keep b2)
  have AA := Lib.hid (A.out _ b12.out)
  have CC := Lib.hid (C.out _ b12.out)
  have TT := Lib.hid (take_any (H.out.ext b12.out) h8 s1)
  clear FF b2 b1 A C n1 q1
  cases cn
  · have hc0 : cn0 = true := hcl.resolve_left (by simp)
    subst hc0
    go_wp2_with fail
    refine AA.out.mono ?_
    rintro e w3 ⟨rfl, rfl⟩
    go_wp2_with fail
    refine CC.out.mono ?_
    rintro e w3 ⟨rfl, rfl⟩
    go_wp2_with fail
    refine TT.out.mono ?_
    intro e w3 hs3
    have hsp := Lib.hid (hs3.sp (H.out.ext b12.out) h8)
    obtain ⟨rfl, -⟩ := hs3
    go_wp2_with fail
    go_ret3
    exact ⟨rfl, s1, p1, g1, c1, hsp.out.1, N2.out.far hsp.out.2 (by omega) (by omega), Qu.far Q2.out hsp.out.2 (by omega) (by omega), (Far.of_ext b12.out).trans hsp.out.2 (fun k _ hk => hk), z1, z2, z3, z4⟩
  · clear CC AA
    go_wp2_with fail
    refine TT.out.mono ?_
    intro e w3 hs3
    have hsp := Lib.hid (hs3.sp (H.out.ext b12.out) h8)
    obtain ⟨rfl, -⟩ := hs3
    go_wp2_with fail
    go_ret3
    exact ⟨rfl, s1, p1, g1, c1, hsp.out.1, N2.out.far hsp.out.2 (by omega) (by omega), Qu.far Q2.out hsp.out.2 (by omega) (by omega), (Far.of_ext b12.out).trans hsp.out.2 (fun k _ hk => hk), z1, z2, z3, z4⟩
end Go.Proofs.Ytdcfenkllpfbaaa.Sns

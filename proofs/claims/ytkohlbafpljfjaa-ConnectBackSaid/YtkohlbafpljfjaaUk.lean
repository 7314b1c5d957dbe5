/-
  LAYER 4: Put2, Get2, GetRaw, Get, PutRaw, Put, the document's.
-/
import Derived.Test.YtkohlbafpljfjaaUj
import Derived.Deep.QuietTactic
import Derived.BigQuiet
namespace Go.Proofs.Ytkohlbafpljfjaa
set_option linter.unusedSimpArgs false
set_option linter.unusedVariables false
open Go.RowKit

theorem put2_err (n : Int) (w : World) (h : n < 0 ∨ 65535 < n) (b : -9223372036854775808 ≤ n ∧ n ≤ 9223372036854775807) :
    Calls Try.prog 46 #[.int .i64 n] w fun e w' => e = .returned (.tuple #[.slice none 0 0, .int .i64 1]) ∧ w = w' := by
  rcases (show n < 0 ∨ (0 ≤ n ∧ 65535 < n) by omega) with h | ⟨h, h'⟩
  all_goals
    go_enter Try.func46, Try.ntmps46
    go_wp2
    go_ret2
    exact ⟨rfl, rfl⟩

theorem rput2_err (n : Int) (w : World) (h : n < 0 ∨ 65535 < n) (b : -9223372036854775808 ≤ n ∧ n ≤ 9223372036854775807) :
    Calls Try.prog 49 #[.int .i64 n] w fun e w' => e = .returned (.tuple #[.slice none 0 0, .int .i64 1]) ∧ w = w' := by
  rcases (show n < 0 ∨ (0 ≤ n ∧ 65535 < n) by omega) with h | ⟨h, h'⟩
  all_goals
    go_enter Try.func49, Try.ntmps49
    go_wp2
    go_ret2
    exact ⟨rfl, rfl⟩

theorem rput2_any (n : Nat) (w : World) (hn : n ≤ 65535) :
    Calls Try.prog 49 #[.int .i64 n] w fun e w' => e = .returned (.tuple #[.slice (some ⟨w.heap.size, 0, none⟩) 2 2, .int .i64 0]) ∧ w' = w.alloc (.cells #[.int .u8 ((n / 256 : Nat) : Int), .int .u8 ((n % 256 : Nat) : Int)] 5) := by
  have hn' : (n : Int) ≤ 65535 := by omega
  go_enter Try.func49, Try.ntmps49
  go_wp2
  go_ret2
  exact ⟨rfl, by simp⟩

set_option maxHeartbeats 1000000 in
set_option maxRecDepth 100000 in
theorem rget2_any (v : Value) (l : List Nat) (at' : Int) (w : World) (hb : BytesAt w v l) (h256 : ∀ x ∈ l, x < 256) (hl : l.length ≤ 140737488355328) (b : -9223372036854775808 ≤ at' ∧ at' ≤ 9223372036854775807) :
    Calls Try.prog 41 #[v, .int .i64 at'] w fun e w' => e = .returned (.tuple #[.int .i64 (get2V l at').1, .int .i64 (get2V l at').2.1, .int .i64 (get2V l at').2.2]) ∧ ∃ n, w' = w.drewN n := by
  obtain ⟨a, cap, rfl, hcap, hc⟩ := hb
  obtain ⟨n, hn⟩ : ∃ n, n = l.length := ⟨_, rfl⟩
  rw [← hn] at hl hcap hc ⊢
  by_cases h1 : at' < 0 ∨ (n : Int) < at'
  · have e : get2V l at' = (0, 0, 1) := by unfold get2V; rw [← hn, if_pos h1]
    rw [e]
    clear e hn hc hcap
    rcases (show at' < 0 ∨ (0 ≤ at' ∧ (n : Int) < at') by omega) with h | ⟨h, h'⟩
    all_goals
      clear h1
      go_enter Try.func41, Try.ntmps41
      go_wp2
      go_ret3
      exact ⟨rfl, 0, rfl⟩
  · obtain ⟨k, rfl⟩ := Int.eq_ofNat_of_zero_le (show 0 ≤ at' by omega)
    have h0 : (k : Int) ≤ n := by omega
    by_cases h2 : (n : Int) - k < 2
    · have e : get2V l k = (0, 0, 2) := by unfold get2V; rw [← hn, if_neg h1, if_pos h2]
      rw [e]
      clear e hn hc hcap h1
      go_enter Try.func41, Try.ntmps41
      go_wp2
      go_ret3
      exact ⟨rfl, 0, rfl⟩
    · have e : get2V l k = (((256 * l.getD k 0 + l.getD (k + 1) 0 : Nat) : Int), (k : Int) + 2, 0) := by unfold get2V; rw [← hn, if_neg h1, if_neg h2]; simp
      rw [e]
      rcases hc with hc | ⟨bb, o, rfl, hlt, hcell⟩
      · subst hc; simp at hn; omega
      have c0 := hcell k (by omega)
      have c1 := hcell (k + 1) (by omega)
      have b0 : l.getD k 0 < 256 := by
        rw [List.getD_eq_getElem?_getD, List.getElem?_eq_getElem (by omega)]; exact h256 _ (List.getElem_mem _)
      have b1 : l.getD (k + 1) 0 < 256 := by
        rw [List.getD_eq_getElem?_getD, List.getElem?_eq_getElem (by omega)]; exact h256 _ (List.getElem_mem _)
      generalize l.getD k 0 = x at *
      generalize l.getD (k + 1) 0 = y at *
      have hor : bits .or .i64 ((x : Int) * 256) (y : Int) = ((256 * x + y : Nat) : Int) := by
        rw [show (x : Int) * 256 = ((x * 256 : Nat) : Int) from by omega, i64_or_nat _ _ (by omega) (by omega), nat_join 8 _ _ (by omega) (by omega)]
        omega
      have hb0 : (x : Int) < 256 := by omega
      have hb1 : (y : Int) < 256 := by omega
      have w1 : IntKind.i64.wrap ((k : Int) + 1) = k + 1 := IntWalk.i64_in _ (by omega)
      have w2 : ((k : Int) + 1).toNat = k + 1 := by omega
      have w3 : 0 ≤ (k : Int) + 1 := by omega
      have w4 : IntKind.i64.wrap ((k : Int) + 2) = k + 2 := IntWalk.i64_in _ (by omega)
      have c1' : w.cell? ⟨bb, o + k + 1, none⟩ = some (.int .u8 (y : Int)) := by rw [Nat.add_assoc]; exact c1
      have hk2 : (k : Int) + 2 ≤ n := by omega
      clear hcell e hn h256 h1 h2 b
      go_enter Try.func41, Try.ntmps41
      go_wp2
      go_quiet (fail)
      go_wp2
      go_ret3
      exact ⟨by simp, nq, rfl⟩

set_option maxHeartbeats 1000000 in
set_option maxRecDepth 100000 in
theorem rgetraw_any (v : Value) (l : List Nat) (at' : Int) (w : World) (hb : BytesAt w v l) (h256 : ∀ x ∈ l, x < 256) (hl : l.length ≤ 140737488355328) (b : -9223372036854775808 ≤ at' ∧ at' ≤ 9223372036854775807) :
    Calls Try.prog 56 #[v, .int .i64 at'] w (RawPost (rawV l at') w) := by
  have G := rget2_any v l at' w hb h256 hl b
  by_cases h0 : (get2V l at').2.2 = 0
  · obtain ⟨k, m, rfl, hk, hm, e⟩ := get2_ok h0 h256
    rw [e] at G
    have er : rawV l k = if (l.length : Int) - ((k + 2 : Nat) : Int) < m then (ByteArray.empty, 0, 2) else (strB ((l.drop (k + 2)).take m), ((k + 2 : Nat) : Int) + m, 0) := by
      unfold rawV; rw [e]; simp only [ne_eq, not_true, if_false, Int.toNat_natCast]
    obtain ⟨n, hn⟩ : ∃ n, n = l.length := ⟨_, rfl⟩
    have hk' : ((k + 2 : Nat) : Int) ≤ n := by omega
    have hm' : (m : Int) ≤ 65535 := by omega
    obtain ⟨a, cap, rfl, hcap, hc⟩ := id hb
    rw [← hn] at er hcap hl G ⊢
    have hn2 : (n : Int) ≤ 140737488355328 := by omega
    obtain ⟨bb, o, rfl⟩ : ∃ bb o, a = some ⟨bb, o, none⟩ := by
      rcases hc with rfl | ⟨bb, o, rfl, _⟩
      · simp at hn; omega
      · exact ⟨bb, o, rfl⟩
    obtain ⟨q, hq⟩ : ∃ q, q = k + 2 := ⟨_, rfl⟩
    rw [← hq] at er G hk' hk
    have hn3 := Lib.hid hn
    replace G := Lib.hid G
    by_cases hlt : (n : Int) - q < m
    · rw [if_pos hlt] at er
      rw [er]
      clear er e hq hn hc hb h256 h0
      go_enter Try.func56, Try.ntmps56
      go_wp2_with (go_at_call 41; refine G.out.mono ?_; rintro e w' ⟨rfl, nq, rfl⟩)
      go_ret3
      exact ⟨rfl, nq, rfl⟩
    · rw [if_neg hlt] at er
      rw [er]
      have hqm : q + m ≤ n := by omega
      have hqm' : (q : Int) + m ≤ n := by omega
      have hcp : n ≤ cap := hcap.1
      have hcp' : (q : Int) + m ≤ cap := by omega
      clear e hq hn hc h0 hlt er
      by_cases hcq : cap = q
      · obtain rfl : m = 0 := by omega
        subst hcq
        have HB : BytesAt w (.slice (some ⟨bb, o, none⟩) 0 0) ((l.drop cap).take 0) := ⟨some ⟨bb, o, none⟩, 0, rfl, ⟨by simp, fun h => by cases h⟩, .inl rfl⟩
        have kc : ∀ nq, (convert 23 9 (.slice (some ⟨bb, o, none⟩) 0 0)).run Try.prog (w.drewN nq) = _ := fun nq => (HB.drewN nq).conv (P := Try.prog) Try.underlying23 Try.underlying5 Try.underlying9
        clear HB hb
        go_enter Try.func56, Try.ntmps56
        go_wp2_with (go_at_call 41; refine G.out.mono ?_; rintro e w' ⟨rfl, nq, rfl⟩)
        go_ret3
        exact ⟨by simp, nq, rfl⟩
      · have HB := hb.sub q m (cap - q) (by rw [← hn3.out]; omega) (by omega)
        have kc : ∀ nq, (convert 23 9 (.slice (some ⟨bb, o + q, none⟩) m (cap - q))).run Try.prog (w.drewN nq) = _ := fun nq => (HB.drewN nq).conv (P := Try.prog) Try.underlying23 Try.underlying5 Try.underlying9
        have hcq1 : q < cap := by omega
        have hcq2 : (q : Int) < cap := by omega
        generalize strB ((l.drop q).take m) = S at *
        clear HB hb hcq
        go_enter Try.func56, Try.ntmps56
        go_wp2_with (go_at_call 41; refine G.out.mono ?_; rintro e w' ⟨rfl, nq, rfl⟩)
        go_ret3
        exact ⟨by simp, nq, rfl⟩
  · obtain ⟨x, hx⟩ : ∃ x, (get2V l at').2.2 = x := ⟨_, rfl⟩
    have er : rawV l at' = (ByteArray.empty, 0, x) := by unfold rawV; rw [if_pos h0, hx]
    rw [er]
    rw [hx] at G h0
    have h0' : (x != 0) = true := by simpa using h0
    replace G := Lib.hid G
    clear er hx h0
    go_enter Try.func56, Try.ntmps56
    go_wp2_with (go_at_call 41; refine G.out.mono ?_; rintro e w' ⟨rfl, nq, rfl⟩)
    go_ret3
    exact ⟨rfl, nq, rfl⟩

theorem raw_err (l : List Nat) (at' : Int) : (rawV l at').2.2 ≠ 0 → (rawV l at').1 = ByteArray.empty ∧ (rawV l at').2.1 = 0 := by
  unfold rawV
  split
  · intro _; exact ⟨rfl, rfl⟩
  · split
    · intro _; exact ⟨rfl, rfl⟩
    · intro h; exact absurd rfl h
set_option maxHeartbeats 1000000 in
set_option maxRecDepth 100000 in
theorem rget_any (v : Value) (l : List Nat) (at' : Int) (w : World) (hb : BytesAt w v l) (h256 : ∀ x ∈ l, x < 256) (hl : l.length ≤ 140737488355328) (b : -9223372036854775808 ≤ at' ∧ at' ≤ 9223372036854775807) :
    Calls Try.prog 31 #[v, .int .i64 at'] w (GetPost (getV l at') w) := by
  have G := rgetraw_any v l at' w hb h256 hl b
  obtain ⟨a, cap, rfl, _⟩ := id hb
  have hz := raw_err l at'
  unfold getV
  clear hb
  generalize rawV l at' = r at *
  obtain ⟨S, y, x⟩ := r
  unfold RawPost at G
  simp only at G hz ⊢
  by_cases hx : x = 0
  · subst hx
    clear hz
    have R := rright_any S
    by_cases hr : rightB S = true
    · rw [hr] at R ⊢
      replace R := Lib.hid R
      replace G := Lib.hid G
      clear hr
      go_enter Try.func31, Try.ntmps31
      go_wp2_with (first | (go_at_call 56; refine G.out.mono ?_; rintro e w' ⟨rfl, nq, rfl⟩) | (go_at_call 50; refine (R.out _).mono ?_; rintro e w2 ⟨rfl, n2, rfl⟩))
      go_ret3
      exact ⟨by first | rfl | simp, below_drewN (Below.refl _ _) (nq + n2)⟩
    · have hr : rightB S = false := by simpa using hr
      rw [hr] at R ⊢
      replace R := Lib.hid R
      replace G := Lib.hid G
      clear hr
      go_enter Try.func31, Try.ntmps31
      go_wp2_with (first | (go_at_call 56; refine G.out.mono ?_; rintro e w' ⟨rfl, nq, rfl⟩) | (go_at_call 50; refine (R.out _).mono ?_; rintro e w2 ⟨rfl, n2, rfl⟩))
      go_ret3
      exact ⟨by first | rfl | simp, below_drewN (Below.refl _ _) (nq + n2)⟩
  · have hx' : (x != 0) = true := by simpa using hx
    rw [if_neg (by simp [hx])]
    obtain ⟨rfl, rfl⟩ := hz hx
    replace G := Lib.hid G
    clear hx
    go_enter Try.func31, Try.ntmps31
    go_wp2_with (first | (go_at_call 56; refine G.out.mono ?_; rintro e w' ⟨rfl, nq, rfl⟩))
    go_ret3
    exact ⟨rfl, below_drewN (Below.refl _ _) nq⟩

set_option maxHeartbeats 1000000 in
set_option maxRecDepth 100000 in
theorem rputraw_any (s : ByteArray) (w : World) (h : s.size ≤ 65535) : Calls Try.prog 51 #[.string s] w (PutPost s w) := by
  have h' : (s.size : Int) ≤ 65535 := by omega
  obtain ⟨i0, hi, hz0, hz1, hz2⟩ := info_parts info5
  have hown0 : (w.alloc (.cells #[.int .u8 ((s.size / 256 : Nat) : Int), .int .u8 ((s.size % 256 : Nat) : Int)] 5)).ownsRow w.heap.size 5 1 (.slice (some ⟨w.heap.size, 0, none⟩) 2 2) 2 (bl [s.size / 256, s.size % 256]) := by
    have := World.ownsRow_lit (base := w.heap.size) (e := 5) (size := 1) w #[.int .u8 ((s.size / 256 : Nat) : Int), .int .u8 ((s.size % 256 : Nat) : Int)] 2 (by simp) (by unfold maxLen; omega) rfl
    simpa [bl] using this
  have P := rput2_any s.size w h
  have hb0 : Below w.heap.size w (w.alloc (.cells #[.int .u8 ((s.size / 256 : Nat) : Int), .int .u8 ((s.size % 256 : Nat) : Int)] 5)) := ext_alloc _ _
  generalize w.alloc (.cells #[.int .u8 ((s.size / 256 : Nat) : Int), .int .u8 ((s.size % 256 : Nat) : Int)] 5) = w0 at *
  replace P := Lib.hid P
  have hs0 := hb0.size
  go_enter Try.func51, Try.ntmps51
  go_wp2_with fail
  refine P.out.mono ?_
  rintro e w' ⟨rfl, rfl⟩
  go_wp2_with (at_builtin; refine Lib.wpList_append_own_string _ rfl (.tmp 14) (.tmp 15) 23 9 rfl w.heap.size 5 i0 Try.underlying23 Try.underlying9 hi hz0 hz1 hz2 (.slice (some ⟨w.heap.size, 0, none⟩) 2 2) 2 (bl [s.size / 256, s.size % 256]) rfl hown0 s rfl (by unfold maxLen; omega) (by omega) hs0 ?_; intro v1 w1 hown1 hgrow1 hnil1)
  have hb1 : Below w.heap.size w w1 := hb0.grown hgrow1 hs0 (fun k hk => by cases hk; exact Nat.le_refl _)
  go_ret2
  refine ⟨v1, rfl, ?_, hb1⟩
  rw [bl_raw, rawL_length]
  exact hown1

theorem rputraw_long (s : ByteArray) (w : World) (h : 65535 < s.size) (hs : s.size ≤ 140737488355328) :
    Calls Try.prog 51 #[.string s] w fun e w' => e = .returned (.tuple #[.slice none 0 0, .int .i64 3]) ∧ w = w' := by
  have P := Lib.hid (rput2_err s.size w (by omega) (by omega))
  go_enter Try.func51, Try.ntmps51
  go_wp2_with fail
  refine P.out.mono ?_
  rintro e w' ⟨rfl, rfl⟩
  go_wp2_with fail
  go_ret2
  exact ⟨rfl, rfl⟩

theorem rput_bad (s : ByteArray) (w : World) (h : s.size ≤ 65535) (hr : rightB s = false) :
    Calls Try.prog 27 #[.string s] w fun e w' => e = .returned (.tuple #[.slice none 0 0, .int .i64 9]) ∧ Below w.heap.size w w' := by
  have h' : (s.size : Int) ≤ 65535 := by omega
  have R := rright_any s
  rw [hr] at R
  replace R := Lib.hid R
  clear hr
  go_enter Try.func27, Try.ntmps27
  go_wp2_with (go_at_call 50; refine (R.out _).mono ?_; rintro e w2 ⟨rfl, n2, rfl⟩)
  go_ret2
  exact ⟨rfl, below_drewN (Below.refl _ _) n2⟩

theorem rput_long (s : ByteArray) (w : World) (h : 65535 < s.size) :
    Calls Try.prog 27 #[.string s] w fun e w' => e = .returned (.tuple #[.slice none 0 0, .int .i64 3]) ∧ w = w' := by
  have h' : (65535 : Int) < s.size := by omega
  go_enter Try.func27, Try.ntmps27
  go_wp2
  go_ret2
  exact ⟨rfl, rfl⟩

theorem rput_ok (s : ByteArray) (w : World) (h : s.size ≤ 65535) (hr : rightB s = true) : Calls Try.prog 27 #[.string s] w (PutPost s w) := by
  have h' : (s.size : Int) ≤ 65535 := by omega
  have R := rright_any s
  rw [hr] at R
  replace R := Lib.hid R
  clear hr
  go_enter Try.func27, Try.ntmps27
  go_wp2_with (first | (go_at_call 50; refine (R.out _).mono ?_; rintro e w2 ⟨rfl, n2, rfl⟩) | (go_at_call 51; refine (rputraw_any s _ h).mono ?_; rintro e w3 ⟨v, rfl, hown, hb3⟩))
  go_ret2
  exact ⟨v, rfl, by simpa using hown, ext_trans (below_drewN (Below.refl _ _) n2) hb3⟩
end Go.Proofs.Ytkohlbafpljfjaa

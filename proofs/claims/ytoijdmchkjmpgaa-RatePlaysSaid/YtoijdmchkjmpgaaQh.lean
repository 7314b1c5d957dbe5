/-
  LAYER 22: Move; two lists that are one.
-/
import Derived.Test.YtoijdmchkjmpgaaQg
import Derived.LaidEqlPtr
namespace Go.Proofs.Ytoijdmchkjmpgaa.Que
open Go.RowKit
/-- Nothing but the two blocks has changed. -/
structure Two (c1 c2 : Nat) (w w' : World) : Prop where
  os : w'.os = w.os
  tape : w'.tape = w.tape
  output : w'.output = w.output
  size : w.heap.size ≤ w'.heap.size
  block : ∀ k, k < w.heap.size → k ≠ c1 → k ≠ c2 → w'.heap[k]? = w.heap[k]?
theorem Two.refl (c1 c2 : Nat) (w : World) : Two c1 c2 w w := ⟨rfl, rfl, rfl, Nat.le_refl _, fun _ _ _ _ => rfl⟩
section
variable {a b c : World} {c1 c2 B : Nat}
theorem Two.g1 (h : Two c1 c2 a b) (g : b.grownBy c (some c1)) : Two c1 c2 a c :=
  ⟨g.os.trans h.os, g.tape.trans h.tape, g.output.trans h.output, Nat.le_trans h.size g.size, fun k hk h1 h2 => (g.block k (Nat.lt_of_lt_of_le hk h.size) (by simpa using h1)).trans (h.block k hk h1 h2)⟩
theorem Two.g2 (h : Two c1 c2 a b) (g : b.grownBy c (some c2)) : Two c1 c2 a c :=
  ⟨g.os.trans h.os, g.tape.trans h.tape, g.output.trans h.output, Nat.le_trans h.size g.size, fun k hk h1 h2 => (g.block k (Nat.lt_of_lt_of_le hk h.size) (by simpa using h2)).trans (h.block k hk h1 h2)⟩
theorem Two.ext (h : Two c1 c2 a b) (g : Below b.heap.size b c) : Two c1 c2 a c := h.g1 (grown_of g (Nat.le_refl _))
theorem Two.below (h : Two c1 c2 a b) (h1 : B ≤ c1) (h2 : B ≤ c2) (hB : B ≤ a.heap.size) : Below B a b :=
  ⟨h.os, h.tape, h.output, h.size, fun k hk => h.block k (Nat.lt_of_lt_of_le hk hB) (by omega) (by omega)⟩
end
def movedN (l1 l2 : List Mg) (cap2 : Nat) : Nat := min l1.length (cap2 - l2.length)
def MovePost (g1 c1 cap1 : Nat) (l1 : List Mg) (lost1 : Int) (g2 c2 cap2 : Nat) (l2 : List Mg) (lost2 : Int) (w : World) (e : Ending) (w' : World) : Prop :=
  e = .returned (.int .i64 (movedN l1 l2 cap2 : Nat)) ∧ Qu w' g1 c1 cap1 (l1.drop (movedN l1 l2 cap2)) lost1 ∧ Qu w' g2 c2 cap2 (l2 ++ l1.take (movedN l1 l2 cap2)) lost2 ∧ Two c1 c2 w w'
theorem info73 : ∃ i, Try.prog.info? 73 = some i ∧ i.size = 2 := by
  have h : (Try.prog.info? 73).map (·.size) = some 2 := by kernel_rfl
  exact Option.map_eq_some_iff.1 h
section
variable {w w' : World} {g1 c1 cap1 g2 c2 cap2 : Nat} {l1 l2 : List Mg} {lost1 lost2 : Int}
theorem Qu.two (h : Qu w g1 c1 cap1 l1 lost1) {k : Nat} (G : w.grownBy w' (some k)) (h1 : g1 ≠ k) (h2 : c1 ≠ k) : Qu w' g1 c1 cap1 l1 lost1 := h.beside G (Ne.symm h1) (Ne.symm h2)
theorem Qu.apart (h : Qu w g1 c1 cap1 l1 lost1) (k : Qu w g2 c2 cap2 l2 lost2) : g1 ≠ c2 := by
  rintro rfl
  obtain ⟨s, r, hc⟩ := k.ch
  have := h.row.symm.trans hc
  cases this
set_option maxRecDepth 100000 in
theorem move_same (h : Qu w g1 c1 cap1 l1 lost1) : Calls Try.prog 33 #[.pointer (some ⟨g1, 0, none⟩), .pointer (some ⟨g1, 0, none⟩)] w fun e w' => e = .returned (.int .i64 0) ∧ w = w' := by
  obtain ⟨i, hi, -⟩ := info73
  have he := run_eql_ptr_same (P := Try.prog) w (tp := 46) (te := 73) ⟨g1, 0, none⟩ Try.underlying46 hi
  clear h
  go_enter Try.func33, Try.ntmps33
  go_wp2
  go_ret
  exact ⟨rfl, rfl⟩
set_option maxHeartbeats 4000000 in
set_option maxRecDepth 100000 in
theorem move_any (h1 : Qu w g1 c1 cap1 l1 lost1) (h2 : Qu w g2 c2 cap2 l2 lost2) (hg : g2 ≠ g1) (hc : c1 ≠ c2) (hl1 : l1.length ≤ 1000) (hl2 : l2.length ≤ cap2) (hcap : cap2 ≤ 1000) :
    Calls Try.prog 33 #[.pointer (some ⟨g2, 0, none⟩), .pointer (some ⟨g1, 0, none⟩)] w (MovePost g1 c1 cap1 l1 lost1 g2 c2 cap2 l2 lost2 w) := by
  obtain ⟨i, hi, hs⟩ := info73
  have he := run_eql_ptr_other (P := Try.prog) w (tp := 46) (te := 73) (a := ⟨g2, 0, none⟩) (b := ⟨g1, 0, none⟩) Try.underlying46 hi (by omega) (fun h => hg (congrArg Addr.block h)) h2.row h1.row
  have gc1 := Lib.hid (h1.apart h2)
  have gc2 := Lib.hid (h2.apart h1)
  have H1 := Lib.hid h1
  have H2 := Lib.hid h2
  clear h1 h2 hi hs
  go_enter Try.func33, Try.ntmps33
  go_wp2_with fail
  clear he
  go_loopw [5] (fun iv wr => ∃ k : Nat, iv = .int .i64 (k : Int) ∧ k ≤ l1.length ∧ l2.length + k ≤ cap2 ∧ Qu wr g1 c1 cap1 (l1.drop k) lost1 ∧ Qu wr g2 c2 cap2 (l2 ++ l1.take k) lost2 ∧ Two c1 c2 w wr) (fun iv _ => l1.length - (intOf iv).toNat)
  case atStart => exact ⟨0, rfl, by omega, by omega, by simpa using H1.out, by simpa using H2.out, Two.refl _ _ _⟩
  case round =>
    obtain ⟨k, rfl, hk, hk2, q1, q2, T⟩ := hrel
    have NL : Hid (Calls Try.prog 36 #[.pointer (some ⟨g1, 0, none⟩)] wr fun e w' => e = .returned (.int .i64 ((l1.length : Int) - (k : Int))) ∧ wr = w') := Lib.hid ((len_any q1 (by simp; omega)).mono fun e w' ⟨h1, h2⟩ => ⟨h1.trans (ret_int (by simp; omega)), h2⟩)
    by_cases hend : k = l1.length
    · have hm : movedN l1 l2 cap2 = k := by unfold movedN; omega
      have R : Hid (MovePost g1 c1 cap1 l1 lost1 g2 c2 cap2 l2 lost2 w (.returned (.int .i64 k)) wr) := Lib.hid ⟨by rw [hm], by rw [hm]; exact q1, by rw [hm]; exact q2, T⟩
      have hz : (l1.length : Int) - (k : Int) = 0 := by omega
      rw [hz] at NL
      clear q1 q2 T hm hend hz
      go_wp2_with fail
      refine NL.out.mono ?_
      rintro e w2 ⟨rfl, rfl⟩
      go_wp2
      go_ret
      exact R.out
    · have hpos : 0 < (l1.length : Int) - (k : Int) := by omega
      have hll : (l2 ++ l1.take k).length = l2.length + k := by simp; omega
      by_cases hfull : l2.length + k = cap2
      · have hm : movedN l1 l2 cap2 = k := by unfold movedN; omega
        have FL := Lib.hid (full_yes q2 (by omega) (by omega))
        have R : Hid (∀ n, MovePost g1 c1 cap1 l1 lost1 g2 c2 cap2 l2 lost2 w (.returned (.int .i64 k)) (wr.drewN n)) := Lib.hid fun n => ⟨by rw [hm], by rw [hm]; exact q1.drewN n, by rw [hm]; exact q2.drewN n, T.ext (ext_drewN _ _)⟩
        clear q1 q2 T hm hend hfull hll
        go_wp2_with fail
        refine NL.out.mono ?_
        rintro e w2 ⟨rfl, rfl⟩
        go_wp2_with fail
        refine FL.out.mono ?_
        rintro e w2 ⟨n, rfl, rfl⟩
        go_wp2
        go_ret
        exact R.out _
      · have FL := Lib.hid (full_no q2 (by omega) (by omega))
        have klt : k < l1.length := by omega
        have hk3 : l2.length + k < cap2 := by omega
        rw [List.drop_eq_getElem_cons klt] at q1
        have ht : l2 ++ l1.take k ++ [l1[k]] = l2 ++ l1.take (k + 1) := by rw [List.append_assoc, List.take_succ_eq_append_getElem klt]
        obtain ⟨m, hm⟩ : ∃ m, m = l1[k] := ⟨_, rfl⟩
        rw [← hm] at q1 ht
        clear hm
        have TK : Hid (∀ n, Calls Try.prog 30 #[.pointer (some ⟨g1, 0, none⟩)] (wr.drewN n) fun e w' => e = .returned (.tuple #[.agg #[.string m.a0, .string m.a1, .int .i64 m.a2, .bool m.a3], .bool true]) ∧ Qu w' g1 c1 cap1 (l1.drop (k + 1)) lost1 ∧ (wr.drewN n).grownBy w' (some c1)) := Lib.hid (fun n => take_yes (q1.drewN n))
        have Q2 := Lib.hid q2
        replace T := Lib.hid T
        replace ht := Lib.hid ht
        replace hll := Lib.hid hll
        clear q1 q2 hend hfull
        go_wp2_with fail
        refine NL.out.mono ?_
        rintro e w2 ⟨rfl, rfl⟩
        go_wp2_with fail
        refine FL.out.mono ?_
        rintro e w2 ⟨n, rfl, rfl⟩
        go_wp2_with fail
        refine (TK.out _).mono ?_
        rintro e w2 ⟨rfl, q1, G⟩
        have T2 := Lib.hid (((T.out.ext (ext_drewN _ n)).g1 G).ext (ext_alloc w2 (.cells #[.string m.a0, .string m.a1, .int .i64 m.a2, .bool m.a3] 53)))
        have P : Hid (Calls Try.prog 28 #[.pointer (some ⟨g2, 0, none⟩), .agg #[.string m.a0, .string m.a1, .int .i64 m.a2, .bool m.a3]] (w2.alloc (.cells #[.string m.a0, .string m.a1, .int .i64 m.a2, .bool m.a3] 53)) fun e w' => e = .returned (.bool true) ∧ Qu w' g2 c2 cap2 (l2 ++ l1.take k ++ [m]) lost2 ∧ (w2.alloc (.cells #[.string m.a0, .string m.a1, .int .i64 m.a2, .bool m.a3] 53)).grownBy w' (some c2)) :=
          Lib.hid (put_yes ((((Q2.out.drewN n).two G gc2.out (Ne.symm hc))).keep (ext_alloc w2 _)) m (by have := hll.out; omega))
        have q3 := Lib.hid (q1.keep (ext_alloc w2 (.cells #[.string m.a0, .string m.a1, .int .i64 m.a2, .bool m.a3] 53)))
        clear q1 G TK
        go_wp2_with fail
        refine P.out.mono ?_
        rintro e w3 ⟨rfl, q4, G4⟩
        have q5 := Lib.hid (q3.out.two G4 gc1.out hc)
        have T3 := Lib.hid (T2.out.g2 G4)
        rw [ht.out] at q4
        replace q4 := Lib.hid q4
        clear G4 P
        go_wp2_with fail
        go_roundw
        case rel => exact ⟨k + 1, by simp, by omega, by omega, q5.out, q4.out, T3.out⟩
        case measure => simp [intOf]; omega
end
/-- The cells of the k-th. -/
theorem ms_get {w : World} {v : Value} {l : List Mg} (h : MsAt w v l) {k : Nat} {f : Mg} (hf : l[k]? = some f) {wr : World} (hb : Below w.heap.size w wr) : ∃ b o c, v = .slice (some ⟨b, o, none⟩) l.length c ∧ wr.cell? ⟨b, o + k * 4, none⟩ = some (.string f.a0) ∧ wr.cell? ⟨b, o + k * 4 + 1, none⟩ = some (.string f.a1) ∧ wr.cell? ⟨b, o + k * 4 + 2, none⟩ = some (.int .i64 f.a2) ∧ wr.cell? ⟨b, o + k * 4 + 3, none⟩ = some (.bool f.a3) := by
  obtain ⟨a, cap, rfl, -, hc⟩ := h
  obtain ⟨b, o, rfl, -, c0, c1, c2, c3⟩ := msAt_at hf hb hc
  exact ⟨b, o, cap, rfl, c0, c1, c2, c3⟩
set_option maxHeartbeats 2000000 in
set_option maxRecDepth 100000 in
theorem same_eq {w : World} {v1 v2 : Value} {l : List Mg} (h1 : MsAt w v1 l) (h2 : MsAt w v2 l) (hl : l.length ≤ 100000) : Calls Try.prog 39 #[v1, v2] w (Yes w) := by
  obtain ⟨a1, p1, e1, -, -⟩ := id h1
  obtain ⟨a2, p2, e2, -, -⟩ := id h2
  subst e1 e2
  have H1 := Lib.hid h1
  have H2 := Lib.hid h2
  have hl' : (l.length : Int) ≤ 100000 := by omega
  clear h1 h2
  go_enter Try.func39, Try.ntmps39
  go_wp2
  go_loopw [5] (fun iv wr => ∃ k : Nat, iv = .int .i64 (k : Int) ∧ k ≤ l.length ∧ Below w.heap.size w wr) (fun iv _ => l.length - (intOf iv).toNat)
  case atStart => exact ⟨0, rfl, by omega, Below.refl _ _⟩
  case round =>
    obtain ⟨k, rfl, hk, hb⟩ := hrel
    by_cases hend : k = l.length
    · subst hend
      replace hb := Lib.hid hb
      go_wp2
      go_ret
      exact ⟨rfl, hb.out⟩
    · have klt : k < l.length := by omega
      have klt' : (k : Int) < (l.length : Int) := by omega
      obtain ⟨f, hf⟩ : ∃ f, l[k]? = some f := ⟨_, List.getElem?_eq_getElem klt⟩
      obtain ⟨b, o, c, hv, x0, x1, x2, x3⟩ := ms_get H1.out hf hb
      obtain ⟨b', o', c', hv', y0, y1, y2, y3⟩ := ms_get H2.out hf hb
      simp only [Value.slice.injEq] at hv hv'
      obtain ⟨rfl, -, rfl⟩ := hv
      obtain ⟨rfl, -, rfl⟩ := hv'
      replace hb := Lib.hid hb
      replace hf := Lib.hid hf
      clear hend
      go_wp2_with fail
      go_quiet (fail)
      go_wp2_with fail
      go_roundw
      case rel => exact ⟨k + 1, by simp, by omega, below_drewN hb.out _⟩
      case measure => simp [intOf]; omega
end Go.Proofs.Ytoijdmchkjmpgaa.Que

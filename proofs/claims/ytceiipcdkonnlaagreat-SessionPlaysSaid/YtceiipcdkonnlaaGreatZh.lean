/-
  LAYER 25: stands says true.
-/
import Derived.Test.YtceiipcdkonnlaaGreatZg
namespace Go.Proofs.YtceiipcdkonnlaaGreat.Ses
open Go.RowKit Que Hp Ids Fli
set_option linter.unusedSimpArgs false
set_option linter.unusedVariables false
section
variable {R w0 w : World} {a : Ad} {d : Ax} {E : Nat → Prop} {vi vq vf : Value} {cl : ByteArray} {cn on : Bool} {T : List Bool} {p : PS} {L : List Se} {l : List Mg} {lost : Int} {cs : List Int} {n : Nat} {li : List Int}
theorem SB.doc_cells (h : SB R w0 w a d E vi vq vf cl cn T p p cs n li) : w.cell? ⟨d.x, 0, none⟩ = some (.string cl) ∧ w.cell? ⟨d.x, 1, none⟩ = some (.bool cn) ∧ w.cell? ⟨d.x, 2, none⟩ = some (.bool p.on) ∧ w.cell? ⟨d.x, 3, none⟩ = some (.pointer (some ⟨d.q, 0, none⟩)) ∧ w.cell? ⟨d.x, 4, none⟩ = some (.pointer (some ⟨d.f, 0, none⟩)) ∧ w.cell? ⟨d.x, 5, none⟩ = some (.pointer (some ⟨d.i, 0, none⟩)) ∧ w.cell? ⟨d.q, 0, none⟩ = some vq ∧ w.cell? ⟨d.q, 2, none⟩ = some (.int .i64 p.lost) ∧ w.cell? ⟨d.f, 0, none⟩ = some vf ∧ w.cell? ⟨d.i, 0, none⟩ = some vi :=
  ⟨cell_of_row _ _ 0 _ 63 (0, 0) h.xs.row, cell_of_row _ _ 1 _ 63 (0, 0) h.xs.row, h.xs.x2, h.xs.x3, h.xs.x4, h.xs.x5, h.xs.xq.c0, h.xs.xq.c2, h.xs.xf.c0, h.xb.cell⟩
set_option maxHeartbeats 32000000 in
set_option maxRecDepth 100000 in
theorem stands_any (h : SB R w0 w a d (fun _ => False) vi vq vf cl cn T ⟨on, L, l, lost⟩ ⟨on, L, l, lost⟩ cs n li) (hk : cs.take n = li) :
    Calls Tryz.prog 8 #[.pointer (some ⟨a.s, 0, none⟩), .pointer (some ⟨d.x, 0, none⟩)] w fun e w' => e = .returned (.bool true) ∧ ∃ vi vq vf, SB w' w0 w' a d (fun _ => False) vi vq vf cl cn T ⟨on, L, l, lost⟩ ⟨on, L, l, lost⟩ cs n li := by
  have Q := Lib.hid (s_queue h.ps)
  have hl16 : l.length ≤ 16 := h.ps.le
  have hL8 : L.length ≤ 8 := h.xs.l8
  have hi16 : li.length ≤ 16 := by rw [← hk, List.length_take]; have := h.pb.len; omega
  obtain ⟨xa1, xc1, rfl⟩ := own_slice h.xs.xq.its
  obtain ⟨xa2, xc2, rfl⟩ := own_slice h.xs.xf.its
  obtain ⟨xa3, xc3, rfl⟩ := own_slice h.xb.its
  have hl16' : (l.length : Int) ≤ 16 := by omega
  have hL8' : (L.length : Int) ≤ 8 := by omega
  have hi16' : (li.length : Int) ≤ 16 := by omega
  replace h := Lib.hid h
  replace hk := Lib.hid hk
  go_enter Tryz.func8, Tryz.ntmps8
  go_wp2_with fail
  refine Q.out.mono ?_
  rintro e w1 ⟨v1, rfl, o1, s1, k1, g1⟩
  obtain ⟨i1, -⟩ := h.out.prog (F := fun _ => False) (s1.weaken (fun k hk => hk.elim _root_.id (fun e => e.elim))) k1 (fun k e => e.elim)
  have FL := Lib.hid (s_flight i1.ps)
  obtain ⟨va1, vc1, rfl⟩ := own_slice o1
  replace i1 := Lib.hid i1
  replace o1 := Lib.hid o1
  clear s1 k1 g1 Q
  go_wp2_with fail
  refine FL.out.mono ?_
  rintro e w2 ⟨v2, rfl, o2, b2⟩
  have i2 := Lib.hid (i1.out.ext b2)
  have o12 := Lib.hid (own_keep o1.out b2)
  have IN := Lib.hid (by have := s_inbox i2.out.ps i2.out.pb; rw [hk.out] at this; exact this : Calls Tryz.prog 29 #[.pointer (some ⟨a.s, 0, none⟩)] w2 (Inb.OwnsInts w2.heap.size li w2))
  obtain ⟨va2, vc2, rfl⟩ := own_slice o2
  replace o2 := Lib.hid o2
  clear b2 FL i1 o1
  go_wp2_with fail
  refine IN.out.mono ?_
  rintro e w3 ⟨v3, rfl, o3, -, b3⟩
  have i3 := Lib.hid (i2.out.ext b3)
  have O1 := Lib.hid (own_keep o12.out b3)
  have O2 := Lib.hid (own_keep o2.out b3)
  obtain ⟨va3, vc3, rfl⟩ := own_slice o3
  have O3 := Lib.hid o3
  clear b3 IN i2 o12 o2 o3
  obtain ⟨c0, c1, c2, c3, c4, c5, c6, c7, c8, c9⟩ := i3.out.doc_cells
  simp only at c2 c7
  have P1 : Hid (∀ q, Calls Tryz.prog 30 #[.pointer (some ⟨a.s, 0, none⟩)] (w3.drewN q) fun e w' => e = .returned (.int .i64 lost) ∧ w' = w3.drewN q) := Lib.hid fun q => (s_lost (i3.out.ext (ext_drewN w3 q)).ps).mono fun e w' ⟨he, hw⟩ => ⟨he, hw.symm⟩
  have P2 : Hid (∀ q, Calls Tryz.prog 31 #[.pointer (some ⟨a.s, 0, none⟩)] (w3.drewN q) fun e w' => e = .returned (.bool on) ∧ w' = w3.drewN q) := Lib.hid fun q => (s_online (i3.out.ext (ext_drewN w3 q)).ps).mono fun e w' ⟨he, hw⟩ => ⟨he, hw.symm⟩
  have P3 : Hid (∀ q, Calls Tryz.prog 32 #[.pointer (some ⟨a.s, 0, none⟩)] (w3.drewN q) fun e w' => e = .returned (.string cl) ∧ w' = w3.drewN q) := Lib.hid fun q => (s_client (i3.out.ext (ext_drewN w3 q)).ps).mono fun e w' ⟨he, hw⟩ => ⟨he, hw.symm⟩
  have P4 : Hid (∀ q, Calls Tryz.prog 33 #[.pointer (some ⟨a.s, 0, none⟩)] (w3.drewN q) fun e w' => e = .returned (.bool cn) ∧ w' = w3.drewN q) := Lib.hid fun q => (s_clean (i3.out.ext (ext_drewN w3 q)).ps).mono fun e w' ⟨he, hw⟩ => ⟨he, hw.symm⟩
  have KX : Hid (∀ W, Below w3.heap.size w3 W → SB w1 w0 W a d (fun _ => False) _ _ _ cl cn T ⟨on, L, l, lost⟩ ⟨on, L, l, lost⟩ cs n li) := Lib.hid fun W hW => i3.out.ext hW |>.fin
  go_wp2_with fail
  go_quiet (first | (go_at_call 30; exact Calls.quiet_of_same (P1.out _)) | (go_at_call 31; exact Calls.quiet_of_same (P2.out _)) | (go_at_call 32; exact Calls.quiet_of_same (P3.out _)) | (go_at_call 33; exact Calls.quiet_of_same (P4.out _)))
  go_wp2_with fail
  clear P1 P2 P3 P4 c0 c1 c2 c3 c4 c5 c6 c7 c8 c9
  go_loopw [8] (fun kv wr => ∃ k : Nat, kv = .int .i64 (k : Int) ∧ k ≤ l.length ∧ Below w3.heap.size w3 wr) (fun kv _ => l.length - (intOf kv).toNat)
  case atStart => exact ⟨0, rfl, by omega, ext_drewN _ _⟩
  case round =>
    obtain ⟨k, rfl, hk8, hb8⟩ := hrel
    have HB8 := Lib.hid hb8
    have I8 := Lib.hid (KX.out _ hb8)
    obtain ⟨c0, c1, c2, c3, c4, c5, c6, c7, c8, c9⟩ := I8.out.doc_cells
    clear c0 c1 c2 c7
    by_cases hkl : k < l.length
    · have hkl' : (k : Int) < (l.length : Int) := by omega
      have hk0 : (0 : Int) ≤ (k : Int) := by omega
      obtain ⟨y, hy⟩ : ∃ y, l[k]? = some y := ⟨_, List.getElem?_eq_getElem hkl⟩
      obtain ⟨gb, cb, hvb⟩ := own_slice' O1.out (by omega)
      obtain ⟨gx, cx, hvx⟩ := own_slice' I8.out.xs.xq.its (show 0 < l.length by omega)
      simp only [Value.slice.injEq] at hvb hvx
      obtain ⟨rfl, -, rfl⟩ := hvb
      obtain ⟨rfl, -, rfl⟩ := hvx
      have o8 := own_keep O1.out hb8
      have x8 := I8.out.xs.xq.its
      have Gy := msAtC_get l k y hy
      have q0 : wr.cell? ⟨gb, k * 4, none⟩ = some (.string y.a0) := own_get o8 (by have := Gy 0 (by omega); simpa [Mg.cells] using this)
      have r0 : wr.cell? ⟨gx, k * 4, none⟩ = some (.string y.a0) := own_get x8 (by have := Gy 0 (by omega); simpa [Mg.cells] using this)
      have q1 : wr.cell? ⟨gb, k * 4 + 1, none⟩ = some (.string y.a1) := own_get o8 (by have := Gy 1 (by omega); simpa [Mg.cells] using this)
      have r1 : wr.cell? ⟨gx, k * 4 + 1, none⟩ = some (.string y.a1) := own_get x8 (by have := Gy 1 (by omega); simpa [Mg.cells] using this)
      have q2 : wr.cell? ⟨gb, k * 4 + 2, none⟩ = some (.int .i64 y.a2) := own_get o8 (by have := Gy 2 (by omega); simpa [Mg.cells] using this)
      have r2 : wr.cell? ⟨gx, k * 4 + 2, none⟩ = some (.int .i64 y.a2) := own_get x8 (by have := Gy 2 (by omega); simpa [Mg.cells] using this)
      have q3 : wr.cell? ⟨gb, k * 4 + 3, none⟩ = some (.bool y.a3) := own_get o8 (by have := Gy 3 (by omega); simpa [Mg.cells] using this)
      have r3 : wr.cell? ⟨gx, k * 4 + 3, none⟩ = some (.bool y.a3) := own_get x8 (by have := Gy 3 (by omega); simpa [Mg.cells] using this)
      clear hb8 o8 x8 hy
      try clear Gy
      go_wp2_with fail
      go_quiet (fail)
      go_wp2_with fail
      go_roundw
      case rel => exact ⟨k + 1, by simp, by omega, below_drewN HB8.out _⟩
      case measure => simp [intOf]; omega
    · obtain rfl : k = l.length := by omega
      clear hkl
      go_wp2_with fail
      have HB9 := HB8.out
      clear HB8 I8 hb8 c3 c4 c5 c6 c8 c9
      go_loopw [9] (fun kv wr => ∃ k : Nat, kv = .int .i64 (k : Int) ∧ k ≤ L.length ∧ Below w3.heap.size w3 wr) (fun kv _ => L.length - (intOf kv).toNat)
      case atStart => exact ⟨0, rfl, by omega, HB9⟩
      case round =>
        obtain ⟨k, rfl, hk8, hb8⟩ := hrel
        have HB8 := Lib.hid hb8
        have I8 := Lib.hid (KX.out _ hb8)
        obtain ⟨c0, c1, c2, c3, c4, c5, c6, c7, c8, c9⟩ := I8.out.doc_cells
        clear c0 c1 c2 c7
        by_cases hkl : k < L.length
        · have hkl' : (k : Int) < (L.length : Int) := by omega
          have hk0 : (0 : Int) ≤ (k : Int) := by omega
          obtain ⟨y, hy⟩ : ∃ y, L[k]? = some y := ⟨_, List.getElem?_eq_getElem hkl⟩
          obtain ⟨gb, cb, hvb⟩ := own_slice' O2.out (by omega)
          obtain ⟨gx, cx, hvx⟩ := own_slice' I8.out.xs.xf.its (show 0 < L.length by omega)
          simp only [Value.slice.injEq] at hvb hvx
          obtain ⟨rfl, -, rfl⟩ := hvb
          obtain ⟨rfl, -, rfl⟩ := hvx
          have o8 := own_keep O2.out hb8
          have x8 := I8.out.xs.xf.its
          have Gy := seC_get L k y hy
          have q0 : wr.cell? ⟨gb, k * 6, none⟩ = some (.int .i64 y.i) := own_get o8 (by have := Gy 0 (by omega); simpa [Se.cells] using this)
          have r0 : wr.cell? ⟨gx, k * 6, none⟩ = some (.int .i64 y.i) := own_get x8 (by have := Gy 0 (by omega); simpa [Se.cells] using this)
          have q1 : wr.cell? ⟨gb, k * 6 + 1, none⟩ = some (.int .i64 y.s) := own_get o8 (by have := Gy 1 (by omega); simpa [Se.cells] using this)
          have r1 : wr.cell? ⟨gx, k * 6 + 1, none⟩ = some (.int .i64 y.s) := own_get x8 (by have := Gy 1 (by omega); simpa [Se.cells] using this)
          have q2 : wr.cell? ⟨gb, k * 6 + 2, none⟩ = some (.string y.t) := own_get o8 (by have := Gy 2 (by omega); simpa [Se.cells] using this)
          have r2 : wr.cell? ⟨gx, k * 6 + 2, none⟩ = some (.string y.t) := own_get x8 (by have := Gy 2 (by omega); simpa [Se.cells] using this)
          have q3 : wr.cell? ⟨gb, k * 6 + 3, none⟩ = some (.string y.x) := own_get o8 (by have := Gy 3 (by omega); simpa [Se.cells] using this)
          have r3 : wr.cell? ⟨gx, k * 6 + 3, none⟩ = some (.string y.x) := own_get x8 (by have := Gy 3 (by omega); simpa [Se.cells] using this)
          have q4 : wr.cell? ⟨gb, k * 6 + 4, none⟩ = some (.int .i64 y.q) := own_get o8 (by have := Gy 4 (by omega); simpa [Se.cells] using this)
          have r4 : wr.cell? ⟨gx, k * 6 + 4, none⟩ = some (.int .i64 y.q) := own_get x8 (by have := Gy 4 (by omega); simpa [Se.cells] using this)
          have q5 : wr.cell? ⟨gb, k * 6 + 5, none⟩ = some (.bool y.r) := own_get o8 (by have := Gy 5 (by omega); simpa [Se.cells] using this)
          have r5 : wr.cell? ⟨gx, k * 6 + 5, none⟩ = some (.bool y.r) := own_get x8 (by have := Gy 5 (by omega); simpa [Se.cells] using this)
          clear hb8 o8 x8 hy
          try clear Gy
          go_wp2_with fail
          go_quiet (fail)
          go_wp2_with fail
          go_roundw
          case rel => exact ⟨k + 1, by simp, by omega, below_drewN HB8.out _⟩
          case measure => simp [intOf]; omega
        · obtain rfl : k = L.length := by omega
          clear hkl
          go_wp2_with fail
          have HB9 := HB8.out
          clear HB8 I8 hb8 c3 c4 c5 c6 c8 c9
          go_loopw [10] (fun kv wr => ∃ k : Nat, kv = .int .i64 (k : Int) ∧ k ≤ li.length ∧ Below w3.heap.size w3 wr) (fun kv _ => li.length - (intOf kv).toNat)
          case atStart => exact ⟨0, rfl, by omega, HB9⟩
          case round =>
            obtain ⟨k, rfl, hk8, hb8⟩ := hrel
            have HB8 := Lib.hid hb8
            have I8 := Lib.hid (KX.out _ hb8)
            obtain ⟨c0, c1, c2, c3, c4, c5, c6, c7, c8, c9⟩ := I8.out.doc_cells
            clear c0 c1 c2 c7
            by_cases hkl : k < li.length
            · have hkl' : (k : Int) < (li.length : Int) := by omega
              have hk0 : (0 : Int) ≤ (k : Int) := by omega
              obtain ⟨y, hy⟩ : ∃ y, li[k]? = some y := ⟨_, List.getElem?_eq_getElem hkl⟩
              obtain ⟨gb, cb, hvb⟩ := own_slice' O3.out (by omega)
              obtain ⟨gx, cx, hvx⟩ := own_slice' I8.out.xb.its (show 0 < li.length by omega)
              simp only [Value.slice.injEq] at hvb hvx
              obtain ⟨rfl, -, rfl⟩ := hvb
              obtain ⟨rfl, -, rfl⟩ := hvx
              have o8 := own_keep O3.out hb8
              have x8 := I8.out.xb.its
              skip
              have q0 : wr.cell? ⟨gb, k, none⟩ = some (.int .i64 y) := own_get o8 (by simp [Inb.il, hy])
              have r0 : wr.cell? ⟨gx, k, none⟩ = some (.int .i64 y) := own_get x8 (by simp [Inb.il, hy])
              clear hb8 o8 x8 hy
              try clear Gy
              go_wp2_with fail
              go_quiet (fail)
              go_wp2_with fail
              go_roundw
              case rel => exact ⟨k + 1, by simp, by omega, below_drewN HB8.out _⟩
              case measure => simp [intOf]; omega
            · obtain rfl : k = li.length := by omega
              clear hkl
              go_wp2_with fail
              go_ret
              exact ⟨rfl, _, _, _, I8.out.here⟩
end
end Go.Proofs.YtceiipcdkonnlaaGreat.Ses

/-
  LAYER 13: the document's Of.
-/
import Derived.Test.YtmpklaokgogigaaDoorKe
namespace Go.Proofs.YtmpklaokgogigaaDoor.Con
set_option linter.unusedVariables false
set_option linter.unusedSimpArgs false
open Go.Proofs.YtmpklaokgogigaaDoor
open Go.RowKit
/-- Where the document's Of stands: the answer's block, the bytes. -/
structure DS (w : World) (br kb cap : Nat) (l : List Nat) (W : World) : Prop where
  r : Blk W br 29 con0.v
  bf : Bf W kb (.slice (some ⟨kb, 0, none⟩) l.length cap) l
  bw : Below w.heap.size w W
  lo : w.heap.size ≤ br
section
variable {w W W' : World} {br kb cap : Nat} {l : List Nat}
theorem DS.ext (h : DS w br kb cap l W) (hb : Below W.heap.size W W') : DS w br kb cap l W' := ⟨h.r.ext hb, h.bf.ext hb, h.bw.trans (hb.mono h.bw.size), h.lo⟩
theorem DS.same (h : DS w br kb cap l W) : W.setRow br con0.v = W := setRow_self W br con0.v 29 (0, 0) h.r
theorem DS.put (h : DS w br kb cap l W) (X : Con) : Blk (W.setRow br X.v) br 29 X.v ∧ Below w.heap.size w (W.setRow br X.v) := ⟨setRow_heap W br con0.v X.v 29 (0, 0) h.r, below_setRow h.bw h.lo _⟩
theorem DS.one (h : DS w br kb cap l W) (j : Nat) (hj : j < l.length) : W.cell? ⟨kb, j, none⟩ = some (.int .u8 ((l.getD j 0 : Nat) : Int)) := by
  obtain ⟨cs, fz, h1, h2⟩ := h.bf.row
  have := cell_of_row W kb j cs 5 fz h1
  rw [this]
  exact h2 j hj
theorem rof_end {tmps : Array Value} {Y : Con} {n : Int} {R : Con × Int} (hr : Blk W br 29 Y.v) (h10 : tmps.getD 2 undef = .pointer (some ⟨br, 0, none⟩)) (h11 : tmps.getD 3 undef = .int .i64 n) (hb : Below w.heap.size w W) (hR : R = (Y, n)) :
    bodyPost Tryd.prog Tryd.f37 (RestIs w R) .ret { tmps := tmps, defers := [] } W := by
  subst hR
  have r1 := run_loadVar_row (P := Tryd.prog) W br 29 29 Y.v (0, 0) _ hr Tryd.underlying29 rfl (by kernel_rfl)
  simp only [Array.getD_eq_getD_getElem?] at h10 h11
  exact ⟨rfl, _, by simp [results, Tryd.f37, h10, h11, asAddr, r1], rfl, hb⟩
end
theorem ds_start (s : ByteArray) (w : World) : ∃ cap w1, (convert 9 48 (.string s)).run Tryd.prog (w.alloc (.cells #[.int .i64 0, .bool false, .int .i64 0, .string ⟨#[]⟩, .bool false, .string ⟨#[]⟩, .string ⟨#[]⟩, .int .i64 0, .bool false, .bool false, .string ⟨#[]⟩, .bool false, .string ⟨#[]⟩] 29)) = .ok (.slice (some ⟨w.heap.size + 1, 0, none⟩) (txtL s).length cap) w1 ∧ DS w w.heap.size (w.heap.size + 1) cap (txtL s) w1 := by
  obtain ⟨v, w1, hconv, bf1, b1, z1⟩ := bytes_in s (w.alloc (.cells #[.int .i64 0, .bool false, .int .i64 0, .string ⟨#[]⟩, .bool false, .string ⟨#[]⟩, .string ⟨#[]⟩, .int .i64 0, .bool false, .bool false, .string ⟨#[]⟩, .bool false, .string ⟨#[]⟩] 29))
  have B0 := ext_alloc w (.cells #[.int .i64 0, .bool false, .int .i64 0, .string ⟨#[]⟩, .bool false, .string ⟨#[]⟩, .string ⟨#[]⟩, .int .i64 0, .bool false, .bool false, .string ⟨#[]⟩, .bool false, .string ⟨#[]⟩] 29)
  have z2 : (w.alloc (.cells #[.int .i64 0, .bool false, .int .i64 0, .string ⟨#[]⟩, .bool false, .string ⟨#[]⟩, .string ⟨#[]⟩, .int .i64 0, .bool false, .bool false, .string ⟨#[]⟩, .bool false, .string ⟨#[]⟩] 29)).heap.size = w.heap.size + 1 := by simp
  have kx : Blk (w.alloc (.cells #[.int .i64 0, .bool false, .int .i64 0, .string ⟨#[]⟩, .bool false, .string ⟨#[]⟩, .string ⟨#[]⟩, .int .i64 0, .bool false, .bool false, .string ⟨#[]⟩, .bool false, .string ⟨#[]⟩] 29)) w.heap.size 29 con0.v := Blk.new w 29 _
  obtain ⟨cap, hcap, rfl⟩ := id bf1.hv
  rw [z2] at hconv bf1
  exact ⟨cap, w1, hconv, kx.ext b1, bf1, B0.trans (b1.mono B0.size), Nat.le_refl _⟩
/-- Flags as integers. -/
theorem bits_int (f : Nat) (F : Int) (h : F = (f : Int)) : (F % 2 == 1) = (f % 2 == 1) ∧ (F / 2 % 2 == 1) = (f / 2 % 2 == 1) ∧ (F / 4 % 2 == 1) = (f / 4 % 2 == 1) ∧ F / 8 % 4 = ((f / 8 % 4 : Nat) : Int) ∧ (F / 32 % 2 == 1) = (f / 32 % 2 == 1) ∧ (F / 64 % 2 == 1) = (f / 64 % 2 == 1) ∧ decide (128 ≤ F) = decide (128 ≤ f) ∧ decide (F < 128) = !decide (128 ≤ f) := by
  subst h
  refine ⟨?_, ?_, ?_, by omega, ?_, ?_, ?_, ?_⟩ <;> (rw [Bool.eq_iff_iff]; simp; omega)
theorem not_bad {f : Nat} (h : badF f = false) : (f % 2 == 1) = false ∧ ((f / 4 % 2 == 1) = false → f / 8 % 4 = 0 ∧ (f / 32 % 2 == 1) = false) ∧ f / 8 % 4 ≠ 3 ∧ ((f / 64 % 2 == 1) = true → decide (128 ≤ f) = true) := by
  unfold badF at h
  simp at h
  simp
  omega
theorem is_bad {f : Nat} (h : badF f = true) : f % 2 = 1 ∨ (¬ f / 4 % 2 = 1 ∧ (f / 8 % 4 ≠ 0 ∨ f / 32 % 2 = 1)) ∨ f / 8 % 4 = 3 ∨ (f / 64 % 2 = 1 ∧ f < 128) := by
  unfold badF at h
  simp at h
  omega
theorem conF_eq (f : Nat) : conF f = ⟨4, f / 2 % 2 == 1, 0, ⟨#[]⟩, f / 4 % 2 == 1, ⟨#[]⟩, ⟨#[]⟩, 0, false, decide (128 ≤ f), ⟨#[]⟩, f / 64 % 2 == 1, ⟨#[]⟩⟩ := rfl
section
variable {w W W' : World} {br kb cap : Nat} {l : List Nat}
theorem DS.far (h : DS w br kb cap l W) {g i : Nat} (hg : w.heap.size ≤ g) (h1 : br ≠ g) (h2 : kb ≠ g) (u : Value) : DS w br kb cap l (W.setCell ⟨g, i, none⟩ u) :=
  ⟨h.r.far (p := ⟨g, i, none⟩) h1 u, h.bf.to (Below.heap_setCell W _ _ _ h2), h.bw.setCell hg u, h.lo⟩
end
set_option maxHeartbeats 64000000 in
set_option maxRecDepth 100000 in
theorem rof_any (s : ByteArray) (w : World) (hs : s.size ≤ 140737488351232) : Calls Tryd.prog 37 #[.string s] w (RestIs w (docV (txtL s))) := by
  obtain ⟨cap, w1, hconv, p⟩ := ds_start s w
  have h256 := Lib.hid (txt_lt s)
  have hl : (txtL s).length ≤ 140737488355328 := by rw [txtL_length]; omega
  generalize txtL s = l at *
  obtain ⟨R, hR⟩ : ∃ R, R = docV l := ⟨_, rfl⟩
  rw [← hR]
  obtain ⟨⟨s1, k1, E1⟩, h1⟩ : ∃ r, r = getV l 0 := ⟨_, rfl⟩
  have T := rget_any _ l 0 w1 p.bf.at h256.out hl (by decide)
  have AA := Lib.hid (get_in l 0)
  have G1 : (getV l 0).1 = s1 := by rw [← h1]
  have G2 : (getV l 0).2.1 = k1 := by rw [← h1]
  have G3 : (getV l 0).2.2 = E1 := by rw [← h1]
  rw [← h1] at T
  unfold GetPost at T
  simp only at T
  replace T := Lib.hid T
  replace G1 := Lib.hid G1
  replace G2 := Lib.hid G2
  replace G3 := Lib.hid G3
  replace hR := Lib.hid hR
  have P := Lib.hid p
  clear p h1
  go_enter Tryd.func37, Tryd.ntmps37
  go_wp2_with fail
  refine T.out.mono ?_
  rintro e w2 ⟨rfl, b⟩
  have p := P.out.ext b
  clear T P b hconv
  by_cases hE : E1 = 0
  rotate_left
  · have hF : R = (con0, E1) := hR.out.trans ((d1 (l := l) (by rw [G3.out]; exact hE)).trans (by rw [G3.out]))
    have P := Lib.hid p
    clear p
    replace hF := Lib.hid hF
    have hE' : (E1 != 0) = true := by simpa using hE
    go_wp2_with (refine wpList_store_row rfl 29 (.tmp 2) (.tmp 23) rfl w.heap.size con0.v rfl rfl 29 con0.v P.out.r con_size rfl con_one ?_; rw [P.out.same])
    exact rof_end P.out.r rfl rfl P.out.bw hF.out
  subst hE
  have A0 := AA.out G3.out
  rw [G2.out] at A0
  clear AA
  by_cases hm : s1 = mqtt
  rotate_left
  · have hF : R = (con0, 15) := hR.out.trans (d2 G3.out (by rw [G1.out]; exact hm))
    have P := Lib.hid p
    clear p
    replace hF := Lib.hid hF
    have hd : (s1.toList == [77, 81, 84, 84]) = false := by
      simp only [beq_eq_false_iff_ne, ne_eq]
      exact fun e => hm (by rw [← mqttL, ByteArray.toList_eq, ByteArray.toList_eq] at e; exact ByteArray.ext (Array.toList_inj.1 e))
    go_wp2_with (refine wpList_store_row rfl 29 (.tmp 2) (.tmp 27) rfl w.heap.size con0.v rfl rfl 29 con0.v P.out.r con_size rfl con_one ?_; rw [P.out.same])
    exact rof_end P.out.r rfl rfl P.out.bw hF.out
  subst hm
  have hd : (mqtt.toList == [77, 81, 84, 84]) = true := by rw [mqttL]; rfl
  obtain ⟨k, rfl⟩ := Int.eq_ofNat_of_zero_le A0.1
  have hkl : k ≤ l.length := by omega
  clear A0
  by_cases h2 : (l.length : Int) ≤ (k : Int)
  · have hF : R = (con0, 2) := hR.out.trans (d3 G3.out G1.out (by rw [G2.out]; exact h2))
    have P := Lib.hid p
    clear p
    replace hF := Lib.hid hF
    have h2n : decide (l.length ≤ k) = true := by simp; omega
    go_wp2_with (refine wpList_store_row rfl 29 (.tmp 2) (.tmp 32) rfl w.heap.size con0.v rfl rfl 29 con0.v P.out.r con_size rfl con_one ?_; rw [P.out.same])
    exact rof_end P.out.r rfl rfl P.out.bw hF.out
  have kl : (k : Int) < l.length := by omega
  have h2n : decide (l.length ≤ k) = false := by simp; omega
  obtain ⟨lv, hlv⟩ : ∃ n, n = l.getD k 0 := ⟨_, rfl⟩
  have c1 := p.one k (by omega)
  have lv8 : lv < 256 := by rw [hlv, List.getD_eq_getElem?_getD, List.getElem?_eq_getElem (show k < l.length by omega)]; exact h256.out _ (List.getElem_mem _)
  rw [← hlv] at c1
  replace hlv := Lib.hid hlv
  by_cases h4 : lv = 4
  rotate_left
  · have hF : R = ({ con0 with lev := (lv : Int) }, 0) := hR.out.trans ((d4 G3.out G1.out (by rw [G2.out]; exact h2) (by rw [G2.out, Int.toNat_natCast, ← hlv.out]; exact h4)).trans (by rw [G2.out, Int.toNat_natCast, ← hlv.out]))
    have P := Lib.hid p
    clear p
    replace hF := Lib.hid hF
    have h4' : ((lv : Int) != 4) = true := by simp; omega
    have U := Lib.hid (P.out.put { con0 with lev := (lv : Int) })
    go_wp2_with (refine wpList_store_row rfl 29 (.tmp 2) (.tmp 43) rfl w.heap.size (Con.v { con0 with lev := (lv : Int) }) rfl rfl 29 con0.v ?_ (con_sizeX _) rfl (con_oneX _) ?_; exact P.out.r)
    exact rof_end U.out.1 rfl rfl U.out.2 hF.out
  subst h4
  by_cases h5 : (l.length : Int) ≤ (k : Int) + 1
  · have hF : R = (con0, 2) := hR.out.trans (d5 G3.out G1.out (by rw [G2.out]; exact h2) (by rw [G2.out, Int.toNat_natCast, ← hlv.out]) (by rw [G2.out]; exact h5))
    have P := Lib.hid p
    clear p
    replace hF := Lib.hid hF
    have h5' : decide ((l.length : Int) ≤ (k : Int) + 1) = true := by simpa using h5
    go_wp2_with (refine wpList_store_row rfl 29 (.tmp 2) (.tmp 49) rfl w.heap.size con0.v rfl rfl 29 con0.v P.out.r con_size rfl con_one ?_; rw [P.out.same])
    exact rof_end P.out.r rfl rfl P.out.bw hF.out
  have kl5 : (k : Int) + 1 < l.length := by omega
  have h5' : decide ((l.length : Int) ≤ (k : Int) + 1) = false := by simpa using h5
  have hR6 : R = flagV l (l.getD (k + 1) 0) ((k : Int) + 2) := hR.out.trans ((d6 G3.out G1.out (by rw [G2.out]; exact h2) (by rw [G2.out, Int.toNat_natCast, ← hlv.out]) (by rw [G2.out]; exact h5)).trans (by rw [G2.out, Int.toNat_natCast]))
  clear hR G1 G2 G3
  obtain ⟨f, hf⟩ : ∃ n, n = l.getD (k + 1) 0 := ⟨_, rfl⟩
  have c2 := p.one (k + 1) (by omega)
  have f8 : f < 256 := by rw [hf, List.getD_eq_getElem?_getD, List.getElem?_eq_getElem (show k + 1 < l.length by omega)]; exact h256.out _ (List.getElem_mem _)
  rw [← hf] at c2 hR6
  have ek : (((k + 1 : Nat) : Int)) = (k : Int) + 1 := by omega
  clear hlv hf
  replace hR6 := Lib.hid hR6
  have P := Lib.hid p
  clear p
  obtain ⟨F, hF⟩ : ∃ F : Int, F = (f : Int) := ⟨_, rfl⟩
  obtain ⟨i1, i2, i3, i4, i5, i6, i7, i8⟩ := bits_int f F hF
  rw [← hF] at c2
  have F0 : 0 ≤ F := by omega
  have F1 : F < 256 := by omega
  have h5n : ¬ (l.length : Int) ≤ (k : Int) + 1 := by omega
  clear h2 h5 kl hkl
  by_cases hbad : badF f = true
  · have hG : R = (con0, 10) := hR6.out.trans (if_pos hbad)
    replace hG := Lib.hid hG
    clear hR6 hF i2 i7
    have hb4 := is_bad hbad
    clear hbad
    cases n1 : (f % 2 == 1)
    rotate_left
    · rw [n1] at i1
      clear n1 i3 i4 i5 i6 i8 hb4 f8
      go_wp2_with (refine wpList_store_row rfl 29 (.tmp 2) (.tmp 94) rfl w.heap.size con0.v rfl rfl 29 con0.v ?_ con_size rfl con_one ?_; exact P.out.r; rw [P.out.same])
      exact rof_end P.out.r rfl rfl P.out.bw hG.out
    rw [n1] at i1
    cases hW : (f / 4 % 2 == 1)
    · rw [hW] at i3
      by_cases q0 : f / 8 % 4 = 0
      rotate_left
      · have q1 : (((f / 8 % 4 : Nat) : Int) != 0) = true := by simp; omega
        generalize ((f / 8 % 4 : Nat) : Int) = q at *
        clear n1 hW q0 i5 i6 i8 hb4 f8
        go_wp2_with (refine wpList_store_row rfl 29 (.tmp 2) (.tmp 94) rfl w.heap.size con0.v rfl rfl 29 con0.v ?_ con_size rfl con_one ?_; exact P.out.r; rw [P.out.same])
        exact rof_end P.out.r rfl rfl P.out.bw hG.out
      rw [q0] at i4
      replace i4 : F / 8 % 4 = 0 := i4
      cases hr : (f / 32 % 2 == 1)
      rotate_left
      · rw [hr] at i5
        clear n1 hW q0 hr i6 i8 hb4 f8
        go_wp2_with (refine wpList_store_row rfl 29 (.tmp 2) (.tmp 94) rfl w.heap.size con0.v rfl rfl 29 con0.v ?_ con_size rfl con_one ?_; exact P.out.r; rw [P.out.same])
        exact rof_end P.out.r rfl rfl P.out.bw hG.out
      rw [hr] at i5
      have hp : (f / 64 % 2 == 1) = true := by simp at *; omega
      have hu : decide (128 ≤ f) = false := by simp at *; omega
      rw [hp] at i6
      rw [hu] at i8
      replace i8 : decide (F < 128) = true := i8
      clear n1 hW q0 hr hp hu hb4 f8
      go_wp2_with (refine wpList_store_row rfl 29 (.tmp 2) (.tmp 94) rfl w.heap.size con0.v rfl rfl 29 con0.v ?_ con_size rfl con_one ?_; exact P.out.r; rw [P.out.same])
      exact rof_end P.out.r rfl rfl P.out.bw hG.out
    · rw [hW] at i3
      by_cases q0 : f / 8 % 4 = 3
      · rw [q0] at i4
        replace i4 : F / 8 % 4 = 3 := i4
        clear n1 hW q0 i5 i6 i8 hb4 f8
        go_wp2_with (refine wpList_store_row rfl 29 (.tmp 2) (.tmp 94) rfl w.heap.size con0.v rfl rfl 29 con0.v ?_ con_size rfl con_one ?_; exact P.out.r; rw [P.out.same])
        exact rof_end P.out.r rfl rfl P.out.bw hG.out
      have q3 : (((f / 8 % 4 : Nat) : Int) == 3) = false := by simp; omega
      have hp : (f / 64 % 2 == 1) = true := by simp at *; omega
      have hu : decide (128 ≤ f) = false := by simp at *; omega
      rw [hp] at i6
      rw [hu] at i8
      replace i8 : decide (F < 128) = true := i8
      generalize ((f / 8 % 4 : Nat) : Int) = q at *
      clear n1 hW q0 i5 hp hu hb4 f8
      go_wp2_with (refine wpList_store_row rfl 29 (.tmp 2) (.tmp 94) rfl w.heap.size con0.v rfl rfl 29 con0.v ?_ con_size rfl con_one ?_; exact P.out.r; rw [P.out.same])
      exact rof_end P.out.r rfl rfl P.out.bw hG.out
  replace hbad : badF f = false := by simpa using hbad
  obtain ⟨n1, n2, n3, n4⟩ := not_bad hbad
  have hR7 : R = if (get2V l ((k : Int) + 2)).2.2 ≠ 0 then (con0, (get2V l ((k : Int) + 2)).2.2) else restV l { conF f with keep := (get2V l ((k : Int) + 2)).1 } (get2V l ((k : Int) + 2)).2.1 ((f / 8 % 4 : Nat) : Int) (f / 32 % 2 == 1) := hR6.out.trans (if_neg (by simp [hbad]))
  rw [conF_eq] at hR7
  simp only at hR7
  clear hR6 hbad
  obtain ⟨⟨K2, A2, E2⟩, h6⟩ : ∃ r, r = get2V l ((k : Int) + 2) := ⟨_, rfl⟩
  have T := fun W (hW : Below w2.heap.size w2 W) => rget2_any _ l ((k : Int) + 2) W (P.out.bf.ext hW).at h256.out hl (by omega)
  have AA := get2_in l ((k : Int) + 2)
  rw [← h6] at hR7 T AA
  simp only at hR7 T AA
  clear h6
  rw [n1] at i1
  generalize (f / 2 % 2 == 1) = cl at *
  replace T := Lib.hid T
  replace AA := Lib.hid AA
  cases hW : (f / 4 % 2 == 1)
  rotate_left
  · cases hP : (f / 64 % 2 == 1)
    · have z := 0
      rw [hW] at i3 hR7 n2
      rw [hP] at i6 hR7 n4
      clear n2
      generalize (f / 32 % 2 == 1) = r at *
      have q3 : ((((f / 8 % 4 : Nat) : Int)) == 3) = false := by simp; omega
      generalize ((f / 8 % 4 : Nat) : Int) = q at *
      clear n4 i8
      generalize decide (128 ≤ f) = u at *
      clear hF n3 hW hP f8
      replace hR7 := Lib.hid hR7
      go_wp2_with fail
      refine (T.out _ (ext_alloc _ _)).mono ?_
      rintro e w4 ⟨rfl, nq, b⟩
      replace b : Below (w2.alloc (.cells (Con.v ⟨4, cl, 0, ⟨#[]⟩, true, ⟨#[]⟩, ⟨#[]⟩, 0, false, u, ⟨#[]⟩, false, ⟨#[]⟩⟩) 29)).heap.size (w2.alloc (.cells (Con.v ⟨4, cl, 0, ⟨#[]⟩, true, ⟨#[]⟩, ⟨#[]⟩, 0, false, u, ⟨#[]⟩, false, ⟨#[]⟩⟩) 29)) w4 := by rw [b]; exact below_drewN (Below.refl _ _) nq
      have kc := (Blk.new w2 29 (Con.v ⟨4, cl, 0, ⟨#[]⟩, true, ⟨#[]⟩, ⟨#[]⟩, 0, false, u, ⟨#[]⟩, false, ⟨#[]⟩⟩)).ext b
      have p := P.out.ext (ext_trans (ext_alloc w2 _) b)
      have bl : w.heap.size ≤ w2.heap.size := P.out.bw.size
      have rb : w.heap.size ≠ w2.heap.size := Nat.ne_of_lt P.out.r.lt
      have kb : w.heap.size + 1 ≠ w2.heap.size := Nat.ne_of_lt P.out.bf.lt
      generalize w2.heap.size = bc at *
      clear P b T c1 c2
      by_cases hE : E2 = 0
      rotate_left
      · have hG : R = (con0, E2) := hR7.out.trans (if_pos hE)
        have P := Lib.hid p
        clear p kc
        replace hG := Lib.hid hG
        have hE' : (E2 != 0) = true := by simpa using hE
        go_wp2_with (refine wpList_store_row rfl 29 (.tmp 2) (.tmp 117) rfl w.heap.size con0.v rfl rfl 29 con0.v ?_ con_size rfl con_one ?_; exact P.out.r; rw [P.out.same])
        exact rof_end P.out.r rfl rfl P.out.bw hG.out
      subst hE
      have A6 := Lib.hid (AA.out rfl)
      have hR8 := Lib.hid (hR7.out.trans (if_neg (fun x => x rfl)))
      clear hR7 AA
      have x2 : w4.cell? ⟨bc, 2, none⟩ = some (.int .i64 0) := (kc.cell 2).trans rfl
      have z2 := kc.fz 2
      have k2 := kc.set 2 (.int .i64 K2)
      have p2 := p.far (i := 2) bl rb kb (.int .i64 K2)
      have RR := rest_any 4 cl K2 ⟨#[]⟩ true ⟨#[]⟩ ⟨#[]⟩ 0 false u ⟨#[]⟩ false ⟨#[]⟩ (w4.setCell ⟨bc, 2, none⟩ (.int .i64 K2)) _ l A2 q r p2.bf.at h256.out hl ⟨A6.out.1, A6.out.2.1⟩
      rw [← hR8.out] at RR
      clear kc p
      have P := Lib.hid p2
      replace k2 : Blk (w4.setCell ⟨bc, 2, none⟩ (.int .i64 K2)) bc 29 (Con.v ⟨4, cl, K2, ⟨#[]⟩, true, ⟨#[]⟩, ⟨#[]⟩, 0, false, u, ⟨#[]⟩, false, ⟨#[]⟩⟩) := k2
      have KC := Lib.hid k2
      replace RR := Lib.hid RR
      clear k2 p2
      go_wp2_with (refine wpList_load_row rfl 29 (.tmp 11) rfl bc rfl 29 (Con.v ⟨4, cl, K2, ⟨#[]⟩, true, ⟨#[]⟩, ⟨#[]⟩, 0, false, u, ⟨#[]⟩, false, ⟨#[]⟩⟩) (0, 0) _ ?_ Tryd.underlying29 rfl (con_sizeX _) ?_; exact KC.out)
      refine RR.out.mono ?_
      rintro e w6 ⟨rfl, b6⟩
      have p := P.out.ext b6
      clear RR P b6 KC x2 z2
      have U := Lib.hid (p.put R.1)
      have P := Lib.hid p
      clear p
      go_wp2_with (refine wpList_store_row rfl 29 (.tmp 2) (.tmp 130) rfl w.heap.size (Con.v R.1) rfl rfl 29 con0.v ?_ (con_sizeX _) rfl (con_oneX _) ?_; exact P.out.r)
      exact rof_end U.out.1 rfl rfl U.out.2 rfl
    · have z := 0
      rw [hW] at i3 hR7 n2
      rw [hP] at i6 hR7 n4
      clear n2
      generalize (f / 32 % 2 == 1) = r at *
      have q3 : ((((f / 8 % 4 : Nat) : Int)) == 3) = false := by simp; omega
      generalize ((f / 8 % 4 : Nat) : Int) = q at *
      have u0 := n4 rfl
      rw [u0] at i7 i8 hR7
      replace i8 : decide (F < 128) = false := i8
      clear hF n3 hW hP f8
      replace hR7 := Lib.hid hR7
      go_wp2_with fail
      refine (T.out _ (ext_alloc _ _)).mono ?_
      rintro e w4 ⟨rfl, nq, b⟩
      replace b : Below (w2.alloc (.cells (Con.v ⟨4, cl, 0, ⟨#[]⟩, true, ⟨#[]⟩, ⟨#[]⟩, 0, false, true, ⟨#[]⟩, true, ⟨#[]⟩⟩) 29)).heap.size (w2.alloc (.cells (Con.v ⟨4, cl, 0, ⟨#[]⟩, true, ⟨#[]⟩, ⟨#[]⟩, 0, false, true, ⟨#[]⟩, true, ⟨#[]⟩⟩) 29)) w4 := by rw [b]; exact below_drewN (Below.refl _ _) nq
      have kc := (Blk.new w2 29 (Con.v ⟨4, cl, 0, ⟨#[]⟩, true, ⟨#[]⟩, ⟨#[]⟩, 0, false, true, ⟨#[]⟩, true, ⟨#[]⟩⟩)).ext b
      have p := P.out.ext (ext_trans (ext_alloc w2 _) b)
      have bl : w.heap.size ≤ w2.heap.size := P.out.bw.size
      have rb : w.heap.size ≠ w2.heap.size := Nat.ne_of_lt P.out.r.lt
      have kb : w.heap.size + 1 ≠ w2.heap.size := Nat.ne_of_lt P.out.bf.lt
      generalize w2.heap.size = bc at *
      clear P b T c1 c2
      by_cases hE : E2 = 0
      rotate_left
      · have hG : R = (con0, E2) := hR7.out.trans (if_pos hE)
        have P := Lib.hid p
        clear p kc
        replace hG := Lib.hid hG
        have hE' : (E2 != 0) = true := by simpa using hE
        go_wp2_with (refine wpList_store_row rfl 29 (.tmp 2) (.tmp 117) rfl w.heap.size con0.v rfl rfl 29 con0.v ?_ con_size rfl con_one ?_; exact P.out.r; rw [P.out.same])
        exact rof_end P.out.r rfl rfl P.out.bw hG.out
      subst hE
      have A6 := Lib.hid (AA.out rfl)
      have hR8 := Lib.hid (hR7.out.trans (if_neg (fun x => x rfl)))
      clear hR7 AA
      have x2 : w4.cell? ⟨bc, 2, none⟩ = some (.int .i64 0) := (kc.cell 2).trans rfl
      have z2 := kc.fz 2
      have k2 := kc.set 2 (.int .i64 K2)
      have p2 := p.far (i := 2) bl rb kb (.int .i64 K2)
      have RR := rest_any 4 cl K2 ⟨#[]⟩ true ⟨#[]⟩ ⟨#[]⟩ 0 false true ⟨#[]⟩ true ⟨#[]⟩ (w4.setCell ⟨bc, 2, none⟩ (.int .i64 K2)) _ l A2 q r p2.bf.at h256.out hl ⟨A6.out.1, A6.out.2.1⟩
      rw [← hR8.out] at RR
      clear kc p
      have P := Lib.hid p2
      replace k2 : Blk (w4.setCell ⟨bc, 2, none⟩ (.int .i64 K2)) bc 29 (Con.v ⟨4, cl, K2, ⟨#[]⟩, true, ⟨#[]⟩, ⟨#[]⟩, 0, false, true, ⟨#[]⟩, true, ⟨#[]⟩⟩) := k2
      have KC := Lib.hid k2
      replace RR := Lib.hid RR
      clear k2 p2
      go_wp2_with (refine wpList_load_row rfl 29 (.tmp 11) rfl bc rfl 29 (Con.v ⟨4, cl, K2, ⟨#[]⟩, true, ⟨#[]⟩, ⟨#[]⟩, 0, false, true, ⟨#[]⟩, true, ⟨#[]⟩⟩) (0, 0) _ ?_ Tryd.underlying29 rfl (con_sizeX _) ?_; exact KC.out)
      refine RR.out.mono ?_
      rintro e w6 ⟨rfl, b6⟩
      have p := P.out.ext b6
      clear RR P b6 KC x2 z2
      have U := Lib.hid (p.put R.1)
      have P := Lib.hid p
      clear p
      go_wp2_with (refine wpList_store_row rfl 29 (.tmp 2) (.tmp 130) rfl w.heap.size (Con.v R.1) rfl rfl 29 con0.v ?_ (con_sizeX _) rfl (con_oneX _) ?_; exact P.out.r)
      exact rof_end U.out.1 rfl rfl U.out.2 rfl
  · cases hP : (f / 64 % 2 == 1)
    · have z := 0
      rw [hW] at i3 hR7 n2
      rw [hP] at i6 hR7 n4
      obtain ⟨q0, r0⟩ := n2 rfl
      rw [q0] at i4 hR7
      rw [show ((0 : Nat) : Int) = 0 from rfl] at hR7
      rw [r0] at i5 hR7
      replace i4 : F / 8 % 4 = 0 := i4
      clear n4 i8
      generalize decide (128 ≤ f) = u at *
      clear hF n3 hW hP f8
      replace hR7 := Lib.hid hR7
      go_wp2_with fail
      refine (T.out _ (ext_alloc _ _)).mono ?_
      rintro e w4 ⟨rfl, nq, b⟩
      replace b : Below (w2.alloc (.cells (Con.v ⟨4, cl, 0, ⟨#[]⟩, false, ⟨#[]⟩, ⟨#[]⟩, 0, false, u, ⟨#[]⟩, false, ⟨#[]⟩⟩) 29)).heap.size (w2.alloc (.cells (Con.v ⟨4, cl, 0, ⟨#[]⟩, false, ⟨#[]⟩, ⟨#[]⟩, 0, false, u, ⟨#[]⟩, false, ⟨#[]⟩⟩) 29)) w4 := by rw [b]; exact below_drewN (Below.refl _ _) nq
      have kc := (Blk.new w2 29 (Con.v ⟨4, cl, 0, ⟨#[]⟩, false, ⟨#[]⟩, ⟨#[]⟩, 0, false, u, ⟨#[]⟩, false, ⟨#[]⟩⟩)).ext b
      have p := P.out.ext (ext_trans (ext_alloc w2 _) b)
      have bl : w.heap.size ≤ w2.heap.size := P.out.bw.size
      have rb : w.heap.size ≠ w2.heap.size := Nat.ne_of_lt P.out.r.lt
      have kb : w.heap.size + 1 ≠ w2.heap.size := Nat.ne_of_lt P.out.bf.lt
      generalize w2.heap.size = bc at *
      clear P b T c1 c2
      by_cases hE : E2 = 0
      rotate_left
      · have hG : R = (con0, E2) := hR7.out.trans (if_pos hE)
        have P := Lib.hid p
        clear p kc
        replace hG := Lib.hid hG
        have hE' : (E2 != 0) = true := by simpa using hE
        go_wp2_with (refine wpList_store_row rfl 29 (.tmp 2) (.tmp 117) rfl w.heap.size con0.v rfl rfl 29 con0.v ?_ con_size rfl con_one ?_; exact P.out.r; rw [P.out.same])
        exact rof_end P.out.r rfl rfl P.out.bw hG.out
      subst hE
      have A6 := Lib.hid (AA.out rfl)
      have hR8 := Lib.hid (hR7.out.trans (if_neg (fun x => x rfl)))
      clear hR7 AA
      have x2 : w4.cell? ⟨bc, 2, none⟩ = some (.int .i64 0) := (kc.cell 2).trans rfl
      have z2 := kc.fz 2
      have k2 := kc.set 2 (.int .i64 K2)
      have p2 := p.far (i := 2) bl rb kb (.int .i64 K2)
      have RR := rest_any 4 cl K2 ⟨#[]⟩ false ⟨#[]⟩ ⟨#[]⟩ 0 false u ⟨#[]⟩ false ⟨#[]⟩ (w4.setCell ⟨bc, 2, none⟩ (.int .i64 K2)) _ l A2 0 false p2.bf.at h256.out hl ⟨A6.out.1, A6.out.2.1⟩
      rw [← hR8.out] at RR
      clear kc p
      have P := Lib.hid p2
      replace k2 : Blk (w4.setCell ⟨bc, 2, none⟩ (.int .i64 K2)) bc 29 (Con.v ⟨4, cl, K2, ⟨#[]⟩, false, ⟨#[]⟩, ⟨#[]⟩, 0, false, u, ⟨#[]⟩, false, ⟨#[]⟩⟩) := k2
      have KC := Lib.hid k2
      replace RR := Lib.hid RR
      clear k2 p2
      go_wp2_with (refine wpList_load_row rfl 29 (.tmp 11) rfl bc rfl 29 (Con.v ⟨4, cl, K2, ⟨#[]⟩, false, ⟨#[]⟩, ⟨#[]⟩, 0, false, u, ⟨#[]⟩, false, ⟨#[]⟩⟩) (0, 0) _ ?_ Tryd.underlying29 rfl (con_sizeX _) ?_; exact KC.out)
      refine RR.out.mono ?_
      rintro e w6 ⟨rfl, b6⟩
      have p := P.out.ext b6
      clear RR P b6 KC x2 z2
      have U := Lib.hid (p.put R.1)
      have P := Lib.hid p
      clear p
      go_wp2_with (refine wpList_store_row rfl 29 (.tmp 2) (.tmp 130) rfl w.heap.size (Con.v R.1) rfl rfl 29 con0.v ?_ (con_sizeX _) rfl (con_oneX _) ?_; exact P.out.r)
      exact rof_end U.out.1 rfl rfl U.out.2 rfl
    · have z := 0
      rw [hW] at i3 hR7 n2
      rw [hP] at i6 hR7 n4
      obtain ⟨q0, r0⟩ := n2 rfl
      rw [q0] at i4 hR7
      rw [show ((0 : Nat) : Int) = 0 from rfl] at hR7
      rw [r0] at i5 hR7
      replace i4 : F / 8 % 4 = 0 := i4
      have u0 := n4 rfl
      rw [u0] at i7 i8 hR7
      replace i8 : decide (F < 128) = false := i8
      clear hF n3 hW hP f8
      replace hR7 := Lib.hid hR7
      go_wp2_with fail
      refine (T.out _ (ext_alloc _ _)).mono ?_
      rintro e w4 ⟨rfl, nq, b⟩
      replace b : Below (w2.alloc (.cells (Con.v ⟨4, cl, 0, ⟨#[]⟩, false, ⟨#[]⟩, ⟨#[]⟩, 0, false, true, ⟨#[]⟩, true, ⟨#[]⟩⟩) 29)).heap.size (w2.alloc (.cells (Con.v ⟨4, cl, 0, ⟨#[]⟩, false, ⟨#[]⟩, ⟨#[]⟩, 0, false, true, ⟨#[]⟩, true, ⟨#[]⟩⟩) 29)) w4 := by rw [b]; exact below_drewN (Below.refl _ _) nq
      have kc := (Blk.new w2 29 (Con.v ⟨4, cl, 0, ⟨#[]⟩, false, ⟨#[]⟩, ⟨#[]⟩, 0, false, true, ⟨#[]⟩, true, ⟨#[]⟩⟩)).ext b
      have p := P.out.ext (ext_trans (ext_alloc w2 _) b)
      have bl : w.heap.size ≤ w2.heap.size := P.out.bw.size
      have rb : w.heap.size ≠ w2.heap.size := Nat.ne_of_lt P.out.r.lt
      have kb : w.heap.size + 1 ≠ w2.heap.size := Nat.ne_of_lt P.out.bf.lt
      generalize w2.heap.size = bc at *
      clear P b T c1 c2
      by_cases hE : E2 = 0
      rotate_left
      · have hG : R = (con0, E2) := hR7.out.trans (if_pos hE)
        have P := Lib.hid p
        clear p kc
        replace hG := Lib.hid hG
        have hE' : (E2 != 0) = true := by simpa using hE
        go_wp2_with (refine wpList_store_row rfl 29 (.tmp 2) (.tmp 117) rfl w.heap.size con0.v rfl rfl 29 con0.v ?_ con_size rfl con_one ?_; exact P.out.r; rw [P.out.same])
        exact rof_end P.out.r rfl rfl P.out.bw hG.out
      subst hE
      have A6 := Lib.hid (AA.out rfl)
      have hR8 := Lib.hid (hR7.out.trans (if_neg (fun x => x rfl)))
      clear hR7 AA
      have x2 : w4.cell? ⟨bc, 2, none⟩ = some (.int .i64 0) := (kc.cell 2).trans rfl
      have z2 := kc.fz 2
      have k2 := kc.set 2 (.int .i64 K2)
      have p2 := p.far (i := 2) bl rb kb (.int .i64 K2)
      have RR := rest_any 4 cl K2 ⟨#[]⟩ false ⟨#[]⟩ ⟨#[]⟩ 0 false true ⟨#[]⟩ true ⟨#[]⟩ (w4.setCell ⟨bc, 2, none⟩ (.int .i64 K2)) _ l A2 0 false p2.bf.at h256.out hl ⟨A6.out.1, A6.out.2.1⟩
      rw [← hR8.out] at RR
      clear kc p
      have P := Lib.hid p2
      replace k2 : Blk (w4.setCell ⟨bc, 2, none⟩ (.int .i64 K2)) bc 29 (Con.v ⟨4, cl, K2, ⟨#[]⟩, false, ⟨#[]⟩, ⟨#[]⟩, 0, false, true, ⟨#[]⟩, true, ⟨#[]⟩⟩) := k2
      have KC := Lib.hid k2
      replace RR := Lib.hid RR
      clear k2 p2
      go_wp2_with (refine wpList_load_row rfl 29 (.tmp 11) rfl bc rfl 29 (Con.v ⟨4, cl, K2, ⟨#[]⟩, false, ⟨#[]⟩, ⟨#[]⟩, 0, false, true, ⟨#[]⟩, true, ⟨#[]⟩⟩) (0, 0) _ ?_ Tryd.underlying29 rfl (con_sizeX _) ?_; exact KC.out)
      refine RR.out.mono ?_
      rintro e w6 ⟨rfl, b6⟩
      have p := P.out.ext b6
      clear RR P b6 KC x2 z2
      have U := Lib.hid (p.put R.1)
      have P := Lib.hid p
      clear p
      go_wp2_with (refine wpList_store_row rfl 29 (.tmp 2) (.tmp 130) rfl w.heap.size (Con.v R.1) rfl rfl 29 con0.v ?_ (con_sizeX _) rfl (con_oneX _) ?_; exact P.out.r)
      exact rof_end U.out.1 rfl rfl U.out.2 rfl
end Go.Proofs.YtmpklaokgogigaaDoor.Con

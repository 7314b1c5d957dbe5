/-
  LAYER 13: the program's cursor.
-/
import Derived.Test.YtmpklaokgogigaaDoorKa
import Derived.Test.YtmpklaokgogigaaDoorSk
import Derived.Test.YtmpklaokgogigaaDoorBlk
import Derived.Deep.RegionHeld3
import Derived.Defers
import Derived.Recover
import Derived.Laws.Tables
import Derived.Laws.Rows
import Derived.FnLit
namespace Go.Proofs.YtmpklaokgogigaaDoor.Con
set_option linter.unusedVariables false
set_option linter.unusedSimpArgs false
open Go.Proofs.YtmpklaokgogigaaDoor
open Go.RowKit
theorem grown_trans {a b c : World} {m : Nat} (h : a.grownBy b (some m)) (k : b.grownBy c (some m)) : a.grownBy c (some m) :=
  ⟨k.os.trans h.os, k.tape.trans h.tape, k.output.trans h.output, Nat.le_trans h.size k.size, fun i hi hne => (k.block i (Nat.lt_of_lt_of_le hi h.size) hne).trans (h.block i hi hne)⟩
theorem grown_of {a b : World} {m : Nat} (h : Below a.heap.size a b) : a.grownBy b (some m) :=
  ⟨h.os, h.tape, h.output, h.size, fun i hi _ => h.block i hi⟩
theorem set_grown {w : World} {g j : Nat} {u : Value} : w.grownBy (w.setCell ⟨g, j, none⟩ u) (some g) := gset w g j u
/-- Bytes in a block k. -/
structure Bf (w : World) (k : Nat) (v : Value) (l : List Nat) : Prop where
  hv : ∃ cap, l.length ≤ cap ∧ v = .slice (some ⟨k, 0, none⟩) l.length cap
  row : ∃ cs fz, w.heap[k]? = some (.cells cs 5 fz) ∧ ∀ i, i < l.length → cs[i]? = some (.int .u8 ((l.getD i 0 : Nat) : Int))
variable {w w' : World} {k g : Nat} {v : Value} {l : List Nat} {c : Cu}
theorem Bf.lt (h : Bf w k v l) : k < w.heap.size := by obtain ⟨cs, fz, h, -⟩ := h.row; exact (Array.getElem?_eq_some_iff.1 h).1
theorem Bf.to (h : Bf w k v l) (e : w'.heap[k]? = w.heap[k]?) : Bf w' k v l := ⟨h.hv, by obtain ⟨cs, fz, h1, h2⟩ := h.row; exact ⟨cs, fz, e.trans h1, h2⟩⟩
theorem Bf.ext (h : Bf w k v l) (hb : Below w.heap.size w w') : Bf w' k v l := h.to (hb.block k h.lt)
theorem Bf.at (h : Bf w k v l) : BytesAt w v l := by
  obtain ⟨cap, hc, rfl⟩ := h.hv
  obtain ⟨cs, fz, h1, h2⟩ := h.row
  refine ⟨_, cap, rfl, ⟨hc, fun h => by cases h⟩, .inr ⟨k, 0, rfl, h.lt, fun i hi => ?_⟩⟩
  rw [cell_of_row w k _ cs 5 fz h1, Nat.zero_add]
  exact h2 i hi
theorem Bf.ne {cs : Array Value} {t : TypeId} {z : Nat × Nat} (h : Bf w k v l) (hg : w.heap[g]? = some (.cells cs t z)) (ht : t ≠ 5) : k ≠ g := fun e => by
  subst e
  obtain ⟨cs', fz, h1, -⟩ := h.row
  rw [h1] at hg
  simp only [Option.some.injEq, Obj.cells.injEq] at hg
  exact ht hg.2.1.symm
theorem bytes_in (s : ByteArray) (w : World) : ∃ v w', (convert 9 48 (.string s)).run Tryd.prog w = .ok v w' ∧ Bf w' w.heap.size v (txtL s) ∧ Below w.heap.size w w' ∧ w'.heap.size = w.heap.size + 1 := by
  refine ⟨_, _, run_bytes_of_string w 9 48 5 s Tryd.underlying9 Tryd.underlying48 Tryd.underlying5, ⟨⟨_, by rw [txtL_length]; exact grownCap_ge w s.size 0 5, by rw [txtL_length]⟩, ?_⟩, (Below.refl _ _).drew.alloc (Nat.le_refl _) _, by simp⟩
  refine ⟨_, _, heap_alloc_new _ _, fun i hi => ?_⟩
  rw [txtL_length] at hi
  have hi' : i < s.data.size := hi
  rw [bytesRow_at s _ i hi']
  simp [txtL, List.getD, Array.getElem?_eq_getElem hi']
/-- A cursor over bytes. -/
structure Cur (w : World) (g k : Nat) (v : Value) (l : List Nat) (c : Cu) : Prop where
  row : w.heap[g]? = some (.cells #[v, .int .i64 c.at', .int .i64 c.e] 105 (0, 0))
  bf : Bf w k v l
theorem Cur.lt (h : Cur w g k v l c) : g < w.heap.size := (Array.getElem?_eq_some_iff.1 h.row).1
theorem Cur.c0 (h : Cur w g k v l c) : w.cell? ⟨g, 0, none⟩ = some v := cell_of_row w g 0 _ 105 (0, 0) h.row
theorem Cur.c1 (h : Cur w g k v l c) : w.cell? ⟨g, 1, none⟩ = some (.int .i64 c.at') := cell_of_row w g 1 _ 105 (0, 0) h.row
theorem Cur.c2 (h : Cur w g k v l c) : w.cell? ⟨g, 2, none⟩ = some (.int .i64 c.e) := cell_of_row w g 2 _ 105 (0, 0) h.row
theorem Cur.fz (h : Cur w g k v l c) (j : Nat) : w.frozen? ⟨g, j, none⟩ = false := frozen_of_row w g j _ 105 h.row
theorem Cur.ext (h : Cur w g k v l c) (hb : Below w.heap.size w w') : Cur w' g k v l c := ⟨(hb.block g h.lt).trans h.row, h.bf.ext hb⟩
theorem Cur.setE (h : Cur w g k v l c) (e : Int) : Cur (w.setCell ⟨g, 2, none⟩ (.int .i64 e)) g k v l { c with e := e } :=
  ⟨by simpa using heap_setCell_same w g 2 _ 105 (.int .i64 e) h.row, h.bf.to (Below.heap_setCell w _ _ _ (h.bf.ne h.row (by decide)))⟩
theorem Cur.setA (h : Cur w g k v l c) (a : Int) : Cur (w.setCell ⟨g, 1, none⟩ (.int .i64 a)) g k v l { c with at' := a } :=
  ⟨by simpa using heap_setCell_same w g 1 _ 105 (.int .i64 a) h.row, h.bf.to (Below.heap_setCell w _ _ _ (h.bf.ne h.row (by decide)))⟩
def CurIs (w : World) (g k : Nat) (v : Value) (l : List Nat) (c' : Cu) (w' : World) : Prop := Cur w' g k v l c' ∧ w.grownBy w' (some g)
set_option maxHeartbeats 4000000 in
theorem fail_any (h : Cur w g k v l c) (e : Int) : Calls Tryd.prog 55 #[.pointer (some ⟨g, 0, none⟩), .int .i64 e] w fun x w' => x = .returned (.tuple #[]) ∧ CurIs w g k v l (c.fail e) w' := by
  have c2 := h.c2
  have fz := h.fz 2
  by_cases h0 : c.e = 0
  · have hf : c.fail e = { c with e := e } := if_pos h0
    rw [h0] at c2
    rw [hf]
    have S := Lib.hid (h.setE e)
    clear h
    go_enter Tryd.func55, Tryd.ntmps55
    go_wp2_with fail
    refine bodyPost_end (results_none rfl _ _ _) rfl ?_
    exact ⟨rfl, S.out, set_grown⟩
  · have hf : c.fail e = c := if_neg h0
    have hd : (c.e == 0) = false := by simpa using h0
    rw [hf]
    have S := Lib.hid h
    clear h
    go_enter Tryd.func55, Tryd.ntmps55
    go_wp2_with fail
    first | go_end0 | refine bodyPost_end (results_none rfl _ _ _) rfl ?_
    exact ⟨rfl, S.out, grown_of (Below.refl _ _)⟩
set_option maxHeartbeats 4000000 in
set_option maxRecDepth 100000 in
theorem reads_any (h : Cur w g k v l c) (f : FuncId) (F : Int → ByteArray × Int × Int) (hf : c.e = 0 → ∀ W, Below w.heap.size w W → Calls Tryd.prog f #[v, .int .i64 c.at'] W (GetPost (F c.at') W)) (hfn : f = 61 ∨ f = 85) :
    Calls Tryd.prog 81 #[.pointer (some ⟨g, 0, none⟩), .func (.func f) #[] #[]] w fun x w' => x = .returned (.string (rd ⟨#[]⟩ F c).1) ∧ CurIs w g k v l (rd ⟨#[]⟩ F c).2 w' := by
  have c0 := h.c0
  have c1 := h.c1
  have c2 := h.c2
  have f2 := h.fz 2
  have f1 := h.fz 1
  by_cases h0 : c.e = 0
  · obtain ⟨cap, hc, hv⟩ := h.bf.hv
    have hd : (c.e != 0) = false := by simp [h0]
    have H := Lib.hid h
    clear h
    have KO := Lib.hid (fun W (hW : Below w.heap.size w W) => (show W.cell? ⟨g, 0, none⟩ = some v ∧ W.cell? ⟨g, 1, none⟩ = some (.int .i64 c.at') from ⟨(H.out.ext hW).c0, (H.out.ext hW).c1⟩))
    have HF := Lib.hid (hf h0)
    clear hf
    have hrd : rd ⟨#[]⟩ F c = if (F c.at').2.2 ≠ 0 then (⟨#[]⟩, { c with e := (F c.at').2.2 }) else ((F c.at').1, { c with at' := (F c.at').2.1 }) := by unfold rd; rw [if_neg (by simp [h0])]
    rw [hrd]
    clear hrd
    generalize F c.at' = r at *
    obtain ⟨S, A, E⟩ := r
    simp only
    rw [h0] at c2
    replace h0 := Lib.hid h0
    replace hv := Lib.hid hv
    rcases hfn with rfl | rfl
    all_goals
      go_enter Tryd.func81, Tryd.ntmps81
      go_wp2_with fail
      go_region_held3 (fun W => W.cell? ⟨g, 0, none⟩ = some v ∧ W.cell? ⟨g, 1, none⟩ = some (.int .i64 c.at'))
        (first | exact KO.out _ (by first | exact Below.refl _ _ | exact ext_drew _ | assumption))
        (first
          | (go_at_call 61; refine (HF.out _ (by first | exact Below.refl _ _ | exact ext_drew _ | assumption)).mono ?_; rintro e w3 ⟨rfl, b3⟩; have b4 : Below w.heap.size w w3 := ext_trans (by first | exact ext_drew _ | exact Below.refl _ _ ) b3; clear b3)
          | (go_at_call 85; refine (HF.out _ (by first | exact Below.refl _ _ | exact ext_drew _ | assumption)).mono ?_; rintro e w3 ⟨rfl, b3⟩; have b4 : Below w.heap.size w w3 := ext_trans (by first | exact ext_drew _ | exact Below.refl _ _ ) b3; clear b3))
      all_goals
        have H3 := Lib.hid (H.out.ext b4)
        have G4 := Lib.hid (grown_of (m := g) b4)
        have d1 := H3.out.c1
        have d2 := H3.out.c2
        have e1 := H3.out.fz 1
        have e2 := H3.out.fz 2
        clear KO HF b4 c0 c1 c2 f1 f2
        by_cases hE : E = 0
        · subst hE
          have SA := Lib.hid (H3.out.setA A)
          clear H3
          go_wp2_with fail
          go_ret
          exact ⟨rfl, SA.out, grown_trans G4.out set_grown⟩
        · have hE' : (E != 0) = true := by simpa using hE
          have SA := Lib.hid (H3.out.setE E)
          clear H3
          go_wp2_with fail
          all_goals first | exact absurd hE (by assumption) | (go_ret; exact ⟨rfl, SA.out, grown_trans G4.out set_grown⟩)
  · have hd : (c.e != 0) = true := by simpa using h0
    rw [rd_err h0]
    have S := Lib.hid h
    clear h hf
    go_enter Tryd.func81, Tryd.ntmps81
    go_wp2_with fail
    go_ret
    exact ⟨rfl, S.out, grown_of (Below.refl _ _)⟩
def GetInt (r : Int × Int × Int) (w : World) (e : Ending) (w' : World) : Prop :=
  e = .returned (.tuple #[.int .i64 r.1, .int .i64 r.2.1, .int .i64 r.2.2]) ∧ Below w.heap.size w w'
set_option maxHeartbeats 4000000 in
set_option maxRecDepth 100000 in
theorem readi_any (h : Cur w g k v l c) (f : FuncId) (F : Int → Int × Int × Int) (hf : c.e = 0 → ∀ W, Below w.heap.size w W → Calls Tryd.prog f #[v, .int .i64 c.at'] W (GetInt (F c.at') W)) (hfn : f = 84 ∨ f = 83) :
    Calls Tryd.prog 82 #[.pointer (some ⟨g, 0, none⟩), .func (.func f) #[] #[]] w fun x w' => x = .returned (.int .i64 (rd 0 F c).1) ∧ CurIs w g k v l (rd 0 F c).2 w' := by
  have c0 := h.c0
  have c1 := h.c1
  have c2 := h.c2
  have f2 := h.fz 2
  have f1 := h.fz 1
  by_cases h0 : c.e = 0
  · obtain ⟨cap, hc, hv⟩ := h.bf.hv
    have hd : (c.e != 0) = false := by simp [h0]
    have H := Lib.hid h
    clear h
    have KO := Lib.hid (fun W (hW : Below w.heap.size w W) => (show W.cell? ⟨g, 0, none⟩ = some v ∧ W.cell? ⟨g, 1, none⟩ = some (.int .i64 c.at') from ⟨(H.out.ext hW).c0, (H.out.ext hW).c1⟩))
    have HF := Lib.hid (hf h0)
    clear hf
    have hrd : rd 0 F c = if (F c.at').2.2 ≠ 0 then (0, { c with e := (F c.at').2.2 }) else ((F c.at').1, { c with at' := (F c.at').2.1 }) := by unfold rd; rw [if_neg (by simp [h0])]
    rw [hrd]
    clear hrd
    generalize F c.at' = r at *
    obtain ⟨S, A, E⟩ := r
    simp only
    rw [h0] at c2
    replace h0 := Lib.hid h0
    replace hv := Lib.hid hv
    rcases hfn with rfl | rfl
    all_goals
      go_enter Tryd.func82, Tryd.ntmps82
      go_wp2_with fail
      go_region_held3 (fun W => W.cell? ⟨g, 0, none⟩ = some v ∧ W.cell? ⟨g, 1, none⟩ = some (.int .i64 c.at'))
        (first | exact KO.out _ (by first | exact Below.refl _ _ | exact ext_drew _ | assumption))
        (first
          | (go_at_call 84; refine (HF.out _ (by first | exact Below.refl _ _ | exact ext_drew _ | assumption)).mono ?_; rintro e w3 ⟨rfl, b3⟩; have b4 : Below w.heap.size w w3 := ext_trans (by first | exact ext_drew _ | exact Below.refl _ _ ) b3; clear b3)
          | (go_at_call 83; refine (HF.out _ (by first | exact Below.refl _ _ | exact ext_drew _ | assumption)).mono ?_; rintro e w3 ⟨rfl, b3⟩; have b4 : Below w.heap.size w w3 := ext_trans (by first | exact ext_drew _ | exact Below.refl _ _ ) b3; clear b3))
      all_goals
        have H3 := Lib.hid (H.out.ext b4)
        have G4 := Lib.hid (grown_of (m := g) b4)
        have d1 := H3.out.c1
        have d2 := H3.out.c2
        have e1 := H3.out.fz 1
        have e2 := H3.out.fz 2
        clear KO HF b4 c0 c1 c2 f1 f2
        by_cases hE : E = 0
        · subst hE
          have SA := Lib.hid (H3.out.setA A)
          clear H3
          go_wp2_with fail
          go_ret
          exact ⟨rfl, SA.out, grown_trans G4.out set_grown⟩
        · have hE' : (E != 0) = true := by simpa using hE
          have SA := Lib.hid (H3.out.setE E)
          clear H3
          go_wp2_with fail
          all_goals first | exact absurd hE (by assumption) | (go_ret; exact ⟨rfl, SA.out, grown_trans G4.out set_grown⟩)
  · have hd : (c.e != 0) = true := by simpa using h0
    rw [rd_err h0]
    have S := Lib.hid h
    clear h hf
    go_enter Tryd.func82, Tryd.ntmps82
    go_wp2_with fail
    go_ret
    exact ⟨rfl, S.out, grown_of (Below.refl _ _)⟩

variable (h256 : ∀ x ∈ l, x < 256) (hl : l.length ≤ 140737488355328) (hb : 0 ≤ c.at' ∧ c.at' ≤ 140737488355328)
include h256 hl hb
set_option maxHeartbeats 4000000 in
theorem text_any (h : Cur w g k v l c) : Calls Tryd.prog 54 #[.pointer (some ⟨g, 0, none⟩)] w fun x w' => x = .returned (.string (rd ⟨#[]⟩ (getV l) c).1) ∧ CurIs w g k v l (rd ⟨#[]⟩ (getV l) c).2 w' := by
  have R := Lib.hid (reads_any h 61 (getV l) (fun _ W hW => get_any v l c.at' W (h.ext hW).bf.at h256 hl (by omega)) (.inl rfl))
  clear h
  go_enter Tryd.func54, Tryd.ntmps54
  go_wp2_with fail
  refine R.out.mono ?_
  rintro e w1 ⟨rfl, h1⟩
  replace h1 := Lib.hid h1
  go_wp2_with fail
  go_ret
  exact ⟨rfl, h1.out⟩
set_option maxHeartbeats 4000000 in
theorem raw_any (h : Cur w g k v l c) : Calls Tryd.prog 59 #[.pointer (some ⟨g, 0, none⟩)] w fun x w' => x = .returned (.string (rd ⟨#[]⟩ (rawV l) c).1) ∧ CurIs w g k v l (rd ⟨#[]⟩ (rawV l) c).2 w' := by
  have R := Lib.hid (reads_any h 85 (rawV l) (fun _ W hW => (getraw_any v l c.at' W (h.ext hW).bf.at h256 hl (by omega)).mono (fun e w' he => ⟨he.1, by obtain ⟨n, rfl⟩ := he.2; exact below_drewN (Below.refl _ _) n⟩)) (.inr rfl))
  clear h
  go_enter Tryd.func59, Tryd.ntmps59
  go_wp2_with fail
  refine R.out.mono ?_
  rintro e w1 ⟨rfl, h1⟩
  replace h1 := Lib.hid h1
  go_wp2_with fail
  go_ret
  exact ⟨rfl, h1.out⟩
set_option maxHeartbeats 4000000 in
theorem two_any (h : Cur w g k v l c) : Calls Tryd.prog 58 #[.pointer (some ⟨g, 0, none⟩)] w fun x w' => x = .returned (.int .i64 (rd 0 (get2V l) c).1) ∧ CurIs w g k v l (rd 0 (get2V l) c).2 w' := by
  have R := Lib.hid (readi_any h 84 (get2V l) (fun _ W hW => (get2_any v l c.at' W (h.ext hW).bf.at h256 hl (by omega)).mono (fun e w' he => ⟨he.1, by obtain ⟨n, rfl⟩ := he.2; exact below_drewN (Below.refl _ _) n⟩)) (.inl rfl))
  clear h
  go_enter Tryd.func58, Tryd.ntmps58
  go_wp2_with fail
  refine R.out.mono ?_
  rintro e w1 ⟨rfl, h1⟩
  replace h1 := Lib.hid h1
  go_wp2_with fail
  go_ret
  exact ⟨rfl, h1.out⟩
set_option maxHeartbeats 4000000 in
theorem one_clo (hv : BytesAt w v l) (a : Int) (h0 : 0 ≤ a) (h1 : a ≤ l.length) : Calls Tryd.prog 83 #[v, .int .i64 a] w (GetInt (oneV l a) w) := by
  have hb0 := hb
  clear hb0
  obtain ⟨ad, cap, rfl, hcap, hc⟩ := hv
  unfold oneV
  by_cases he : a = l.length
  · rw [if_pos he]
    subst he
    clear hc h256 hb
    go_enter Tryd.func83, Tryd.ntmps83
    go_wp2_with fail
    go_ret3
    exact ⟨rfl, Below.refl _ _⟩
  · rw [if_neg he]
    obtain ⟨j, rfl⟩ := Int.eq_ofNat_of_zero_le h0
    have hj : j < l.length := by omega
    have hj' : (j : Int) < l.length := by omega
    have hd : ((j : Int) == (l.length : Int)) = false := by simpa using he
    have h8 : l.getD j 0 < 256 := by rw [List.getD_eq_getElem?_getD, List.getElem?_eq_getElem hj]; exact h256 _ (List.getElem_mem _)
    rcases hc with rfl | ⟨b, o, rfl, hlt, hcell⟩
    · simp at hj
    · have c1 := hcell j hj
      simp only [Int.toNat_natCast]
      generalize l.getD j 0 = y at *
      clear hcell h256 hb
      go_enter Tryd.func83, Tryd.ntmps83
      go_wp2_with fail
      go_ret3
      exact ⟨rfl, Below.refl _ _⟩
set_option maxHeartbeats 4000000 in
theorem one_any (ha : c.e = 0 → c.at' ≤ l.length) (h : Cur w g k v l c) : Calls Tryd.prog 56 #[.pointer (some ⟨g, 0, none⟩)] w fun x w' => x = .returned (.int .i64 (rd 0 (oneV l) c).1) ∧ CurIs w g k v l (rd 0 (oneV l) c).2 w' := by
  have R : Hid (Calls Tryd.prog 82 #[.pointer (some ⟨g, 0, none⟩), .func (.func 83) #[] #[]] w fun x w' => x = .returned (.int .i64 (rd 0 (oneV l) c).1) ∧ CurIs w g k v l (rd 0 (oneV l) c).2 w') := Lib.hid (readi_any h 83 (oneV l) (fun h0 W hW => one_clo h256 hl hb (h.ext hW).bf.at c.at' hb.1 (ha h0)) (.inr rfl))
  clear h
  go_enter Tryd.func56, Tryd.ntmps56
  go_wp2_with fail
  refine R.out.mono ?_
  rintro e w1 ⟨rfl, h1⟩
  replace h1 := Lib.hid h1
  go_wp2_with fail
  go_ret
  exact ⟨rfl, h1.out⟩
end Go.Proofs.YtmpklaokgogigaaDoor.Con

/-
  LAYER 13: the program's Of.
-/
namespace Go.Proofs.YtmpklaokgogigaaDoor.Con
set_option linter.unusedVariables false
set_option linter.unusedSimpArgs false
open Go.Proofs.YtmpklaokgogigaaDoor
open Go.RowKit
def flE (f : Nat) : Int := if badF f then 10 else 0
theorem ands : ∀ f : Fin 256, bits .and .i64 ((f.val : Nat) : Int) 1 = ((f.val % 2 : Nat) : Int) ∧ bits .and .i64 ((f.val : Nat) : Int) 2 = ((2 * (f.val / 2 % 2) : Nat) : Int) ∧ bits .and .i64 ((f.val : Nat) : Int) 4 = ((4 * (f.val / 4 % 2) : Nat) : Int) ∧ bits .and .i64 ((f.val : Nat) : Int) 32 = ((32 * (f.val / 32 % 2) : Nat) : Int)
    ∧ bits .and .i64 ((f.val : Nat) : Int) 64 = ((64 * (f.val / 64 % 2) : Nat) : Int) ∧ bits .and .i64 ((f.val : Nat) : Int) 128 = ((128 * (f.val / 128 % 2) : Nat) : Int) ∧ bits .and .i64 (((f.val : Nat) : Int) / 8) 3 = ((f.val / 8 % 4 : Nat) : Int) := by decide +kernel
theorem and_at {f : Nat} (hf : f < 256) : bits .and .i64 (f : Int) 1 = ((f % 2 : Nat) : Int) ∧ bits .and .i64 (f : Int) 2 = ((2 * (f / 2 % 2) : Nat) : Int) ∧ bits .and .i64 (f : Int) 4 = ((4 * (f / 4 % 2) : Nat) : Int) ∧ bits .and .i64 (f : Int) 32 = ((32 * (f / 32 % 2) : Nat) : Int) ∧ bits .and .i64 (f : Int) 64 = ((64 * (f / 64 % 2) : Nat) : Int) ∧ bits .and .i64 (f : Int) 128 = ((128 * (f / 128 % 2) : Nat) : Int) ∧ bits .and .i64 ((f : Int) / 8) 3 = ((f / 8 % 4 : Nat) : Int) := ands ⟨f, hf⟩
set_option maxHeartbeats 4000000 in
theorem flags_any (f : Nat) (w : World) (hf : f < 256) : Calls Tryd.prog 57 #[.int .i64 (f : Int)] w fun e w' => e = .returned (.int .i64 (flE f)) ∧ w = w' := by
  obtain ⟨a1, a2, a4, a32, a64, a128, a3⟩ := and_at hf
  go_enter Tryd.func57, Tryd.ntmps57
  go_wp2_with fail
  all_goals
    clear a1 a2 a4 a32 a64 a128 a3
    try simp only [bne_iff_ne, beq_iff_eq, ne_eq, not_and, Bool.not_eq_true, beq_eq_false_iff_ne, Decidable.not_not, bne_eq_false_iff_eq] at *
    go_ret
    first
      | (have e0 : flE f = 10 := by (simp [flE, badF]; omega)
         rw [e0]; exact ⟨rfl, rfl⟩)
      | (have e0 : flE f = 0 := by (simp [flE, badF]; omega)
         rw [e0]; exact ⟨rfl, rfl⟩)
theorem set_row_grown (w : World) (g : Nat) (cs : Array Value) : w.grownBy (w.setRow g cs) (some g) :=
  ⟨rfl, rfl, rfl, by simp, fun i hi hne => setRow_other w g i cs (fun e => hne (by rw [e]))⟩
theorem con_one : con0.v.all (·.oneCell') = true := by kernel_rfl
theorem con_size : (Tryd.prog.info? 29).map (·.size) = some con0.v.size := by kernel_rfl
/-- Nothing but these two. -/
structure Two (a b : Nat) (w w' : World) : Prop where
  os : w'.os = w.os
  tape : w'.tape = w.tape
  output : w'.output = w.output
  size : w.heap.size ≤ w'.heap.size
  block : ∀ i, i < w.heap.size → i ≠ a → i ≠ b → w'.heap[i]? = w.heap[i]?
theorem Two.of_a {a b : Nat} {w w' : World} (h : w.grownBy w' (some a)) : Two a b w w' := ⟨h.os, h.tape, h.output, h.size, fun i hi h1 _ => h.block i hi (fun e => h1 (by simpa using e))⟩
theorem Two.of_b {a b : Nat} {w w' : World} (h : w.grownBy w' (some b)) : Two a b w w' := ⟨h.os, h.tape, h.output, h.size, fun i hi _ h2 => h.block i hi (fun e => h2 (by simpa using e))⟩
theorem Two.trans {a b : Nat} {w w' w2 : World} (h : Two a b w w') (k : Two a b w' w2) : Two a b w w2 :=
  ⟨k.os.trans h.os, k.tape.trans h.tape, k.output.trans h.output, Nat.le_trans h.size k.size, fun i hi h1 h2 => (k.block i (Nat.lt_of_lt_of_le hi h.size) h1 h2).trans (h.block i hi h1 h2)⟩
theorem Two.below {a b B : Nat} {w0 w w' : World} (h : Two a b w w') (hb : Below B w0 w) (hB : B ≤ w.heap.size) (ha : B ≤ a) (hb' : B ≤ b) : Below B w0 w' :=
  hb.trans ⟨h.os, h.tape, h.output, h.size, fun i hi => h.block i (by omega) (by omega) (by omega)⟩
variable {w w' : World} {k g bx be bf cv : Nat} {v : Value} {l : List Nat} {c : Cu} {X : Con} {f : Nat} {e0 : Int}
def Door (w : World) (bx be : Nat) (X : Con) (c : Cu) (f : Nat) (w' : World) : Prop :=
  Blk w' bx 29 (fin X c f).1.v ∧ Blk w' be 34 #[.int .i64 (fin X c f).2] ∧ Two bx be w w'
set_option maxHeartbeats 4000000 in
set_option maxRecDepth 100000 in
theorem door_any (hcv : Blk w cv 103 #[.pointer (some ⟨g, 0, none⟩)]) (hc : Cur w g k v l c) (hx : Blk w bx 29 X.v) (hf : Blk w bf 3 #[.int .i64 (f : Int)]) (he : Blk w be 34 #[.int .i64 e0]) (h8 : f < 256) (u : FrameMode) :
    CallsD Tryd.prog 53 #[.pointer (some ⟨cv, 0, none⟩), .pointer (some ⟨bx, 0, none⟩), .pointer (some ⟨bf, 0, none⟩), .pointer (some ⟨be, 0, none⟩)] u w fun e u' w' => u' = u ∧ (e = .returned (.tuple #[]) ∧ Door w bx be X c f w') := by
  have ne1 : bx ≠ be := fun e => by subst e; unfold Blk at hx he; rw [hx] at he; simp at he
  have ne2 : g ≠ bx := fun e => by subst e; have := hc.row; unfold Blk at hx; rw [hx] at this; simp at this
  have c0 : w.cell? ⟨cv, 0, none⟩ = some (.pointer (some ⟨g, 0, none⟩)) := (hcv.cell 0).trans rfl
  have g2 := hc.c2
  have fe := he.fz 0
  have e1 : w.cell? ⟨be, 0, none⟩ = some (.int .i64 e0) := (he.cell 0).trans rfl
  by_cases h0 : c.e = 0
  · have hd : (c.e != 0) = false := by simp [h0]
    have hfin : fin X c f = (wq X f, 0) := if_neg (fun x => x h0)
    unfold Door
    rw [hfin]
    obtain ⟨-, -, -, a32, -, -, a3⟩ := and_at h8
    have f1 : w.cell? ⟨bf, 0, none⟩ = some (.int .i64 (f : Int)) := (hf.cell 0).trans rfl
    have x4 : w.cell? ⟨bx, 4, none⟩ = some (.bool X.hasW) := (hx.cell 4).trans rfl
    rw [h0] at g2
    cases hw : X.hasW
    · have hq : wq X f = X := by unfold wq; rw [hw]; rfl
      rw [hq]
      rw [hw] at x4
      have S := Lib.hid (he.set 0 (.int .i64 0))
      have SX := Lib.hid (hx.far (p := ⟨be, 0, none⟩) ne1 (.int .i64 0))
      clear hcv hc hx hf he hq hfin
      go_enter_d Tryd.func53, Tryd.ntmps53
      go_wp2_with fail
      first | go_end0 | refine bodyPost_end (results_none rfl _ _ _) rfl ?_
      exact ⟨rfl, SX.out, S.out, .of_b set_grown⟩
    · obtain ⟨q, hq⟩ : ∃ q : Int, q = ((f / 8 % 4 : Nat) : Int) := ⟨_, rfl⟩
      obtain ⟨r, hr⟩ : ∃ r : Bool, r = (f / 32 % 2 == 1) := ⟨_, rfl⟩
      have a32r : (bits .and .i64 (f : Int) 32 != 0) = r := by
        rw [hr, a32]
        rcases (show f / 32 % 2 = 0 ∨ f / 32 % 2 = 1 by omega) with e | e <;> rw [e] <;> rfl
      rw [← hq] at a3
      have hw2 : (wq X f).v = (X.v.setIfInBounds 7 (.int .i64 q)).setIfInBounds 8 (.bool r) := by
        unfold wq
        rw [if_pos hw, ← hq, ← hr]
        rfl
      rw [hw2]
      rw [hw] at x4
      have x7 : w.cell? ⟨bx, 7, none⟩ = some (.int .i64 X.qos) := (hx.cell 7).trans rfl
      have z7 := hx.fz 7
      have hx2 := hx.set 7 (.int .i64 q)
      have x8 : (w.setCell ⟨bx, 7, none⟩ (.int .i64 q)).cell? ⟨bx, 8, none⟩ = some (.bool X.ret) := (hx2.cell 8).trans rfl
      have z8 := hx2.fz 8
      have hx3 := hx2.set 8 (.bool r)
      have S := Lib.hid (((he.far (p := ⟨bx, 7, none⟩) ne1.symm (.int .i64 q)).far (p := ⟨bx, 8, none⟩) ne1.symm (.bool r)).set 0 (.int .i64 0))
      have SX := Lib.hid (hx3.far (p := ⟨be, 0, none⟩) ne1 (.int .i64 0))
      clear hcv hc hx hf he hfin hx2 hx3 hw2 a32 hq hr
      go_enter_d Tryd.func53, Tryd.ntmps53
      go_wp2_with fail
      first | go_end0 | refine bodyPost_end (results_none rfl _ _ _) rfl ?_
      exact ⟨rfl, SX.out, S.out, ((Two.of_a set_grown).trans (.of_a set_grown)).trans (.of_b set_grown)⟩
  · have hd : (c.e != 0) = true := by simpa using h0
    have hfin : fin X c f = (con0, c.e) := if_pos h0
    unfold Door
    rw [hfin]
    have hg := set_row_grown w bx con0.v
    have ncv : some cv ≠ some bx := fun e => by
      obtain rfl : cv = bx := by simpa using e
      unfold Blk at hcv hx
      rw [hcv] at hx
      simp at hx
    have c0r : (w.setRow bx con0.v).cell? ⟨cv, 0, none⟩ = some (.pointer (some ⟨g, 0, none⟩)) := ((hcv.grown hg ncv).cell 0).trans rfl
    have g2r : (w.setRow bx con0.v).cell? ⟨g, 2, none⟩ = some (.int .i64 c.e) := (cell_setRow_other w bx con0.v ⟨g, 2, none⟩ ne2).trans g2
    have he2 := he.grown hg (fun e => ne1.symm (by simpa using e))
    have e1r : (w.setRow bx con0.v).cell? ⟨be, 0, none⟩ = some (.int .i64 e0) := (he2.cell 0).trans rfl
    have fer := he2.fz 0
    have HX := Lib.hid (show w.heap[bx]? = some (.cells X.v 29 (0, 0)) from hx)
    have S := Lib.hid (he2.set 0 (.int .i64 c.e))
    have SX : Hid (Blk ((w.setRow bx con0.v).setCell ⟨be, 0, none⟩ (.int .i64 c.e)) bx 29 con0.v) := Lib.hid (Blk.far (show (w.setRow bx con0.v).heap[bx]? = some (.cells con0.v 29 (0, 0)) from setRow_heap w bx X.v con0.v 29 (0, 0) hx) (p := ⟨be, 0, none⟩) ne1 _)
    have TW := Lib.hid ((Two.of_a (b := be) hg).trans (.of_b (set_grown (j := 0) (u := .int .i64 c.e))))
    clear hcv hc hx hf he hg ncv he2 hfin
    go_enter_d Tryd.func53, Tryd.ntmps53
    go_wp2_with (refine wpList_store_row rfl 29 (.tmp 1) (.tmp 9) rfl bx con0.v rfl rfl 29 X.v HX.out con_size rfl con_one ?_)
    first | go_end0 | refine bodyPost_end (results_none rfl _ _ _) rfl ?_
    exact ⟨rfl, SX.out, S.out, TW.out⟩
end Go.Proofs.YtmpklaokgogigaaDoor.Con

/-
  LAYER 13: the program's Of, step by step.
-/
namespace Go.Proofs.YtmpklaokgogigaaDoor.Con
set_option linter.unusedVariables false
set_option linter.unusedSimpArgs false
open Go.Proofs.YtmpklaokgogigaaDoor
open Go.RowKit
theorem rd_rng {α : Type} {z : α} {F : Int → α × Int × Int} {c : Cu} {n : Nat} (h : 0 ≤ c.at' ∧ c.at' ≤ n) (hF : (F c.at').2.2 = 0 → 0 ≤ (F c.at').2.1 ∧ (F c.at').2.1 ≤ n) : 0 ≤ (rd z F c).2.at' ∧ (rd z F c).2.at' ≤ n := by
  unfold rd
  split
  · exact h
  · split
    · exact h
    · exact hF (by simpa using ‹¬ (F c.at').2.2 ≠ 0›)
theorem one_rng (l : List Nat) (a : Int) (h : 0 ≤ a ∧ a ≤ l.length) : 0 ≤ (oneV l a).2.1 ∧ (oneV l a).2.1 ≤ l.length := by
  unfold oneV
  split
  · exact ⟨by simp, by simp⟩
  · simp only; omega
theorem fail_at (c : Cu) (e : Int) : (c.fail e).at' = c.at' := by unfold Cu.fail; split <;> rfl
/-- Where Of stands: who comes so far, the cursor, the flags. -/
structure PS (w0 : World) (bx be g k cv bf : Nat) (v : Value) (l : List Nat) (X : Con) (c : Cu) (fl : Int) (W : World) : Prop where
  x : Blk W bx 29 X.v
  e : Blk W be 34 #[.int .i64 0]
  cur : Cur W g k v l c
  cv : Blk W cv 103 #[.pointer (some ⟨g, 0, none⟩)]
  fl : Blk W bf 3 #[.int .i64 fl]
  bw : Below w0.heap.size w0 W
  lo : w0.heap.size ≤ bx ∧ w0.heap.size ≤ be ∧ w0.heap.size ≤ g ∧ w0.heap.size ≤ bf
  rng : 0 ≤ c.at' ∧ c.at' ≤ l.length
  h256 : ∀ x ∈ l, x < 256
  hl : l.length ≤ 140737488355328
section
variable {w0 W W' : World} {bx be g k cv bf : Nat} {v : Value} {l : List Nat} {X : Con} {c : Cu} {fl : Int}
theorem blk_ne {a b : Nat} {s t : TypeId} {x y : Array Value} (h1 : Blk W a s x) (h2 : Blk W b t y) (h : s ≠ t) : a ≠ b := fun e => by
  subst e
  unfold Blk at h1 h2
  rw [h1] at h2
  simp only [Option.some.injEq, Obj.cells.injEq] at h2
  exact h h2.2.1
theorem PS.cvc (h : PS w0 bx be g k cv bf v l X c fl W) : W.cell? ⟨cv, 0, none⟩ = some (.pointer (some ⟨g, 0, none⟩)) := (h.cv.cell 0).trans rfl
theorem PS.flc (h : PS w0 bx be g k cv bf v l X c fl W) : W.cell? ⟨bf, 0, none⟩ = some (.int .i64 fl) := (h.fl.cell 0).trans rfl
theorem PS.on (h : PS w0 bx be g k cv bf v l X c fl W) {c' : Cu} (hc : CurIs W g k v l c' W') (hr : 0 ≤ c'.at' ∧ c'.at' ≤ l.length) : PS w0 bx be g k cv bf v l X c' fl W' := by
  obtain ⟨h1, h2⟩ := hc
  have hg : Blk W g 105 _ := h.cur.row
  have ne : ∀ {b t cs}, Blk W b t cs → t ≠ 105 → some b ≠ some g := fun hb ht e => blk_ne hb hg ht (by simpa using e)
  refine ⟨h.x.grown h2 (ne h.x (by decide)), h.e.grown h2 (ne h.e (by decide)), h1, h.cv.grown h2 (ne h.cv (by decide)), h.fl.grown h2 (ne h.fl (by decide)), ?_, h.lo, hr, h.h256, h.hl⟩
  exact h.bw.trans ⟨h2.os, h2.tape, h2.output, h2.size, fun i hi => h2.block i (Nat.lt_of_lt_of_le hi h.bw.size) (fun e => by have e' : i = g := (by simpa using e); have := h.lo.2.2.1; omega)⟩
theorem PS.setx (h : PS w0 bx be g k cv bf v l X c fl W) (i : Nat) (u : Value) {X' : Con} (hX : X.v.setIfInBounds i u = X'.v) : PS w0 bx be g k cv bf v l X' c fl (W.setCell ⟨bx, i, none⟩ u) := by
  have hg : Blk W g 105 _ := h.cur.row
  have nk : k ≠ bx := h.cur.bf.ne h.x (by decide)
  refine ⟨by rw [← hX]; exact h.x.set i u, h.e.far (p := ⟨bx, i, none⟩) (blk_ne h.e h.x (by decide)) u, ⟨(hg.far (p := ⟨bx, i, none⟩) (blk_ne hg h.x (by decide)) u), h.cur.bf.to (Below.heap_setCell W _ _ _ nk)⟩, h.cv.far (p := ⟨bx, i, none⟩) (blk_ne h.cv h.x (by decide)) u, h.fl.far (p := ⟨bx, i, none⟩) (blk_ne h.fl h.x (by decide)) u, h.bw.setCell h.lo.1 u, h.lo, h.rng, h.h256, h.hl⟩
theorem PS.setf (h : PS w0 bx be g k cv bf v l X c fl W) (f : Int) : PS w0 bx be g k cv bf v l X c f (W.setCell ⟨bf, 0, none⟩ (.int .i64 f)) := by
  have hg : Blk W g 105 _ := h.cur.row
  have nk : k ≠ bf := h.cur.bf.ne h.fl (by decide)
  refine ⟨h.x.far (p := ⟨bf, 0, none⟩) (blk_ne h.x h.fl (by decide)) _, h.e.far (p := ⟨bf, 0, none⟩) (blk_ne h.e h.fl (by decide)) _, ⟨(hg.far (p := ⟨bf, 0, none⟩) (blk_ne hg h.fl (by decide)) _), h.cur.bf.to (Below.heap_setCell W _ _ _ nk)⟩, h.cv.far (p := ⟨bf, 0, none⟩) (blk_ne h.cv h.fl (by decide)) _, h.fl.set 0 _, h.bw.setCell h.lo.2.2.2 _, h.lo, h.rng, h.h256, h.hl⟩
theorem PS.ext (h : PS w0 bx be g k cv bf v l X c fl W) (hb : Below W.heap.size W W') : PS w0 bx be g k cv bf v l X c fl W' :=
  ⟨h.x.ext hb, h.e.ext hb, h.cur.ext hb, h.cv.ext hb, h.fl.ext hb, h.bw.trans (hb.mono h.bw.size), h.lo, h.rng, h.h256, h.hl⟩
theorem ps_text (h : PS w0 bx be g k cv bf v l X c fl W) : Calls Tryd.prog 54 #[.pointer (some ⟨g, 0, none⟩)] W fun e W' => e = .returned (.string (rd ⟨#[]⟩ (getV l) c).1) ∧ PS w0 bx be g k cv bf v l X (rd ⟨#[]⟩ (getV l) c).2 fl W' := by
  have hh := h.hl
  have hr := h.rng
  exact (text_any h.h256 h.hl ⟨hr.1, by omega⟩ h.cur).mono (fun e W' he => ⟨he.1, h.on he.2 (rd_rng h.rng (get_in l _))⟩)
theorem ps_raw (h : PS w0 bx be g k cv bf v l X c fl W) : Calls Tryd.prog 59 #[.pointer (some ⟨g, 0, none⟩)] W fun e W' => e = .returned (.string (rd ⟨#[]⟩ (rawV l) c).1) ∧ PS w0 bx be g k cv bf v l X (rd ⟨#[]⟩ (rawV l) c).2 fl W' := by
  have hh := h.hl
  have hr := h.rng
  exact (raw_any h.h256 h.hl ⟨hr.1, by omega⟩ h.cur).mono (fun e W' he => ⟨he.1, h.on he.2 (rd_rng h.rng (raw_in l _))⟩)
theorem ps_two (h : PS w0 bx be g k cv bf v l X c fl W) : Calls Tryd.prog 58 #[.pointer (some ⟨g, 0, none⟩)] W fun e W' => e = .returned (.int .i64 (rd 0 (get2V l) c).1) ∧ PS w0 bx be g k cv bf v l X (rd 0 (get2V l) c).2 fl W' := by
  have hh := h.hl
  have hr := h.rng
  exact (two_any h.h256 h.hl ⟨hr.1, by omega⟩ h.cur).mono (fun e W' he => ⟨he.1, h.on he.2 (rd_rng h.rng (fun e => ⟨(get2_in l _ e).1, (get2_in l _ e).2.1⟩))⟩)
theorem ps_one (h : PS w0 bx be g k cv bf v l X c fl W) : Calls Tryd.prog 56 #[.pointer (some ⟨g, 0, none⟩)] W fun e W' => e = .returned (.int .i64 (rd 0 (oneV l) c).1) ∧ PS w0 bx be g k cv bf v l X (rd 0 (oneV l) c).2 fl W' := by
  have hh := h.hl
  have hr := h.rng
  exact (one_any h.h256 h.hl ⟨hr.1, by omega⟩ (fun _ => hr.2) h.cur).mono (fun e W' he => ⟨he.1, h.on he.2 (rd_rng h.rng (fun _ => one_rng l _ h.rng))⟩)
theorem ps_fail (h : PS w0 bx be g k cv bf v l X c fl W) (n : Int) : Calls Tryd.prog 55 #[.pointer (some ⟨g, 0, none⟩), .int .i64 n] W fun e W' => e = .returned (.tuple #[]) ∧ PS w0 bx be g k cv bf v l X (c.fail n) fl W' :=
  (fail_any h.cur n).mono (fun e W' he => ⟨he.1, h.on he.2 (by rw [fail_at]; exact h.rng)⟩)
theorem results_con {tmps : Array Value} {n : Int} (h2 : tmps.getD 2 undef = .pointer (some ⟨bx, 0, none⟩)) (h3 : tmps.getD 3 undef = .pointer (some ⟨be, 0, none⟩)) (hx : Blk W bx 29 X.v) (he : Blk W be 34 #[.int .i64 n]) :
    (results Tryd.f30 tmps).run Tryd.prog W = .ok (.tuple #[.agg X.v, .int .i64 n]) W := by
  have e1 : W.cell? ⟨be, 0, none⟩ = some (.int .i64 n) := (he.cell 0).trans rfl
  have r1 := run_loadVar_row (P := Tryd.prog) W bx 29 29 X.v (0, 0) _ hx Tryd.underlying29 rfl (by kernel_rfl)
  simp only [Array.getD_eq_getD_getElem?] at h2 h3
  have r2 : (loadVar 34 ⟨be, 0, none⟩).run Tryd.prog W = .ok (.int .i64 n) W := by simp [go_sem, e1]
  simp [results, Tryd.f30, h2, h3, asAddr, r1, r2]
theorem ext_two' (w : World) (a b : Obj) : Below w.heap.size w ((w.alloc a).alloc b) := (ext_alloc w a).alloc (by simp) b
theorem ps_start (s : ByteArray) (w : World) (hs : s.size ≤ 140737488351232) : ∃ v w1 k cap, (convert 9 48 (.string s)).run Tryd.prog ((w.alloc (.cells #[.int .i64 0, .bool false, .int .i64 0, .string ⟨#[]⟩, .bool false, .string ⟨#[]⟩, .string ⟨#[]⟩, .int .i64 0, .bool false, .bool false, .string ⟨#[]⟩, .bool false, .string ⟨#[]⟩] 29)).alloc (.cells #[.int .i64 0] 34)) = .ok v w1 ∧ v = .slice (some ⟨k, 0, none⟩) s.size cap ∧
    PS w w.heap.size (w.heap.size + 1) w1.heap.size k (w1.heap.size + 1) (w1.heap.size + 1 + 1) v (txtL s) con0 ⟨0, 0⟩ 0 (((w1.alloc (.cells #[v, .int .i64 0, .int .i64 0] 105)).alloc (.cells #[.pointer (some ⟨w1.heap.size, 0, none⟩)] 103)).alloc (.cells #[.int .i64 0] 3)) := by
  obtain ⟨v, w1, hconv, bf1, b1, z1⟩ := bytes_in s ((w.alloc (.cells #[.int .i64 0, .bool false, .int .i64 0, .string ⟨#[]⟩, .bool false, .string ⟨#[]⟩, .string ⟨#[]⟩, .int .i64 0, .bool false, .bool false, .string ⟨#[]⟩, .bool false, .string ⟨#[]⟩] 29)).alloc (.cells #[.int .i64 0] 34))
  obtain ⟨cap, hcap, hv⟩ := bf1.hv
  rw [txtL_length] at hv
  have B0 := ext_two' w (.cells #[.int .i64 0, .bool false, .int .i64 0, .string ⟨#[]⟩, .bool false, .string ⟨#[]⟩, .string ⟨#[]⟩, .int .i64 0, .bool false, .bool false, .string ⟨#[]⟩, .bool false, .string ⟨#[]⟩] 29) (.cells #[.int .i64 0] 34)
  have z2 : ((w.alloc (.cells #[.int .i64 0, .bool false, .int .i64 0, .string ⟨#[]⟩, .bool false, .string ⟨#[]⟩, .string ⟨#[]⟩, .int .i64 0, .bool false, .bool false, .string ⟨#[]⟩, .bool false, .string ⟨#[]⟩] 29)).alloc (.cells #[.int .i64 0] 34)).heap.size = w.heap.size + 2 := by simp
  have kx : Blk ((w.alloc (.cells #[.int .i64 0, .bool false, .int .i64 0, .string ⟨#[]⟩, .bool false, .string ⟨#[]⟩, .string ⟨#[]⟩, .int .i64 0, .bool false, .bool false, .string ⟨#[]⟩, .bool false, .string ⟨#[]⟩] 29)).alloc (.cells #[.int .i64 0] 34)) w.heap.size 29 con0.v := Blk.alloc (Blk.new w 29 _) _
  have ke : Blk ((w.alloc (.cells #[.int .i64 0, .bool false, .int .i64 0, .string ⟨#[]⟩, .bool false, .string ⟨#[]⟩, .string ⟨#[]⟩, .int .i64 0, .bool false, .bool false, .string ⟨#[]⟩, .bool false, .string ⟨#[]⟩] 29)).alloc (.cells #[.int .i64 0] 34)) (w.heap.size + 1) 34 #[.int .i64 0] := by
    have := Blk.new (w.alloc (.cells #[.int .i64 0, .bool false, .int .i64 0, .string ⟨#[]⟩, .bool false, .string ⟨#[]⟩, .string ⟨#[]⟩, .int .i64 0, .bool false, .bool false, .string ⟨#[]⟩, .bool false, .string ⟨#[]⟩] 29)) 34 #[.int .i64 0]
    simpa using this
  refine ⟨v, w1, _, cap, hconv, hv, ?_⟩
  have kx1 := kx.ext b1
  have ke1 := ke.ext b1
  have kg := Blk.new w1 105 #[v, .int .i64 0, .int .i64 0]
  have kc : Blk ((w1.alloc (.cells #[v, .int .i64 0, .int .i64 0] 105)).alloc (.cells #[.pointer (some ⟨w1.heap.size, 0, none⟩)] 103)) (w1.heap.size + 1) 103 #[.pointer (some ⟨w1.heap.size, 0, none⟩)] := by
    have := Blk.new (w1.alloc (.cells #[v, .int .i64 0, .int .i64 0] 105)) 103 #[.pointer (some ⟨w1.heap.size, 0, none⟩)]
    simpa using this
  have kf : Blk (((w1.alloc (.cells #[v, .int .i64 0, .int .i64 0] 105)).alloc (.cells #[.pointer (some ⟨w1.heap.size, 0, none⟩)] 103)).alloc (.cells #[.int .i64 0] 3)) (w1.heap.size + 1 + 1) 3 #[.int .i64 0] := by
    have := Blk.new ((w1.alloc (.cells #[v, .int .i64 0, .int .i64 0] 105)).alloc (.cells #[.pointer (some ⟨w1.heap.size, 0, none⟩)] 103)) 3 #[.int .i64 0]
    simpa using this
  have B3 : Below w1.heap.size w1 (((w1.alloc (.cells #[v, .int .i64 0, .int .i64 0] 105)).alloc (.cells #[.pointer (some ⟨w1.heap.size, 0, none⟩)] 103)).alloc (.cells #[.int .i64 0] 3)) := (ext_two' w1 _ _).alloc (by simp; omega) _
  refine ⟨((kx1.alloc _).alloc _).alloc _, ((ke1.alloc _).alloc _).alloc _, ⟨(kg.alloc _).alloc _, bf1.ext B3⟩, kc.alloc _, kf, B0.trans ((b1.mono B0.size).trans (B3.mono (by rw [z1, z2]; omega))), ⟨Nat.le_refl _, by omega, by rw [z1, z2]; omega, by rw [z1, z2]; omega⟩, ⟨by simp, by simp⟩, txt_lt s, by rw [txtL_length]; omega⟩
theorem door_end {tmps : Array Value} {f : Nat} {r : Con × Int} (h : PS w0 bx be g k cv bf v l X c (f : Int) W) (hf : f < 256) (h2 : tmps.getD 2 undef = .pointer (some ⟨bx, 0, none⟩)) (h3 : tmps.getD 3 undef = .pointer (some ⟨be, 0, none⟩)) (hR : fin X c f = r) :
    bodyPostD Tryd.prog Tryd.f30 (fun e w' => e = .returned (.tuple #[.agg r.1.v, .int .i64 r.2]) ∧ Below w0.heap.size w0 w') .ret { tmps := tmps, defers := [{ target := .fn (.func 53) #[.pointer (some ⟨cv, 0, none⟩), .pointer (some ⟨bx, 0, none⟩), .pointer (some ⟨bf, 0, none⟩), .pointer (some ⟨be, 0, none⟩)], args := #[] }] } W := by
  refine leaves_cons (f := 53) (args := #[.pointer (some ⟨cv, 0, none⟩), .pointer (some ⟨bx, 0, none⟩), .pointer (some ⟨bf, 0, none⟩), .pointer (some ⟨be, 0, none⟩)]) (by simp) (by simp [go_sem]) ?_
  refine (door_any h.cv h.cur h.x h.fl h.e hf .returning).mono ?_
  rintro e u' w' ⟨rfl, rfl, d1, d2, d3⟩
  rw [hR] at d1 d2
  exact ⟨_, results_con h2 h3 d1 d2, rfl, d3.below h.bw h.bw.size h.lo.1 h.lo.2.1⟩
theorem door_end0 {tmps : Array Value} {f : Nat} {r : Con × Int} (h : PS w0 bx be g k cv bf v l X c (f : Int) W) (hf : f < 256) (h2 : tmps.getD 2 undef = .pointer (some ⟨bx, 0, none⟩)) (h3 : tmps.getD 3 undef = .pointer (some ⟨be, 0, none⟩)) (hR : fin X c f = r) :
    bodyPostD Tryd.prog Tryd.f30 (fun e w' => e = .returned (.tuple #[.agg r.1.v, .int .i64 r.2]) ∧ Below w0.heap.size w0 w') .normal { tmps := tmps, defers := [{ target := .fn (.func 53) #[.pointer (some ⟨cv, 0, none⟩), .pointer (some ⟨bx, 0, none⟩), .pointer (some ⟨bf, 0, none⟩), .pointer (some ⟨be, 0, none⟩)], args := #[] }] } W := by
  refine leaves_cons (f := 53) (args := #[.pointer (some ⟨cv, 0, none⟩), .pointer (some ⟨bx, 0, none⟩), .pointer (some ⟨bf, 0, none⟩), .pointer (some ⟨be, 0, none⟩)]) (by simp) (by simp [go_sem]) ?_
  refine (door_any h.cv h.cur h.x h.fl h.e hf .returning).mono ?_
  rintro e u' w' ⟨rfl, rfl, d1, d2, d3⟩
  rw [hR] at d1 d2
  exact ⟨_, results_con h2 h3 d1 d2, rfl, d3.below h.bw h.bw.size h.lo.1 h.lo.2.1⟩
theorem mqttL : mqtt.toList = [77, 81, 84, 84] := by rw [ByteArray.toList_eq]; rfl
theorem one_nat {l : List Nat} {c c2 : Cu} {n : Int} (h256 : ∀ x ∈ l, x < 256) (h : (n, c2) = rd 0 (oneV l) c) : ∃ f : Nat, f < 256 ∧ n = (f : Int) := by
  unfold rd oneV at h
  split at h
  · exact ⟨0, by decide, congrArg Prod.fst h⟩
  · split at h
    · exact ⟨0, by decide, congrArg Prod.fst h⟩
    · split at h
      · exact ⟨0, by decide, congrArg Prod.fst h⟩
      · refine ⟨_, ?_, congrArg Prod.fst h⟩
        rw [List.getD_eq_getElem?_getD]
        cases hg : l[c.at'.toNat]? with
        | none => simp
        | some x => simpa using h256 x (List.mem_of_getElem? hg)
set_option maxHeartbeats 64000000 in
set_option maxRecDepth 100000 in
theorem of_any (s : ByteArray) (w : World) (hs : s.size ≤ 140737488351232) : Calls Tryd.prog 30 #[.string s] w fun e w' => e = .returned (.tuple #[.agg (docV (txtL s)).1.v, .int .i64 (docV (txtL s)).2]) ∧ Below w.heap.size w w' := by
  have hmf : ∀ (fn : Fn) (first cap : Array Value) (w : World), (Instr.makeFunc fn first cap).run Tryd.prog w = .ok (.func fn first cap) w := fun _ _ _ _ => rfl
  obtain ⟨v, w1, k, cap, hconv, rfl, P0⟩ := ps_start s w hs
  rw [← pgm_doc (txtL s)]
  have hls : (txtL s).length = s.size := txtL_length s
  generalize txtL s = l at *
  replace hls := Lib.hid hls
  unfold pgmV
  obtain ⟨⟨s1, c1⟩, h1⟩ : ∃ r, r = rd ⟨#[]⟩ (getV l) ⟨0, 0⟩ := ⟨_, rfl⟩
  rw [← h1]
  have T0 := ps_text P0
  rw [← h1] at T0
  simp only at T0
  have cv0 := P0.cvc
  replace T0 := Lib.hid T0
  obtain ⟨R, hR⟩ : ∃ R, R = pgm2 l (s1, c1) := ⟨_, rfl⟩
  rw [← hR]
  replace hR := Lib.hid hR
  have h256 := Lib.hid P0.h256
  clear P0 h1
  go_enter_defers Tryd.func30, Tryd.ntmps30
  go_wp2_with fail
  refine T0.out.mono ?_
  rintro e w2 ⟨rfl, p⟩
  generalize w1.heap.size = g at *
  clear cv0 T0 hconv
  by_cases hm : s1 = mqtt
  · subst hm
    have hd : (mqtt.toList == [77, 81, 84, 84]) = true := by rw [mqttL]; rfl
    have hR3 := hR.out.trans (pgm2_yes rfl)
    simp only at hR3
    obtain ⟨⟨lv, c3⟩, h3⟩ : ∃ r, r = rd 0 (oneV l) c1 := ⟨_, rfl⟩
    have T := ps_one p
    rw [← h3] at T
    simp only at T
    replace T := Lib.hid T
    replace h3 := Lib.hid h3
    have cv := p.cvc
    clear p
    rw [← h3.out] at hR3
    replace hR3 := Lib.hid hR3
    clear hR
    go_wp2_with fail
    refine T.out.mono ?_
    rintro e w4 ⟨rfl, p0⟩
    clear cv T
    have q := p0.setx 0 (.int .i64 lv) (X' := { con0 with lev := lv }) rfl
    have xi : w4.cell? ⟨w.heap.size, 0, none⟩ = some (.int .i64 0) := (p0.x.cell 0).trans rfl
    have zi := p0.x.fz 0
    clear p0
    have p := q
    clear q
    have y0 : (w4.setCell ⟨w.heap.size, 0, none⟩ (.int .i64 lv)).cell? ⟨w.heap.size, 0, none⟩ = some (.int .i64 lv) := (p.x.cell 0).trans rfl
    have y2 := p.cur.c2
    have cv := p.cvc
    have P := Lib.hid p
    clear p
    by_cases hce : c3.e = 0
    rotate_left
    · have hce' : (c3.e != 0) = true := by simpa using hce
      have F := Lib.hid ((fin_err (X := { con0 with lev := lv }) (f := 0) hce).trans ((hR3.out.trans (pgm3_err hce)).symm))
      go_wp2_with fail
      exact door_end P.out (by decide) rfl rfl F.out
    have hce' : (c3.e != 0) = false := by simp [hce]
    rw [hce] at y2
    by_cases h4 : lv = 4
    rotate_left
    · have h4' : (lv != 4) = true := by simpa using h4
      have F := Lib.hid (show fin { con0 with lev := lv } c3 0 = R from ((if_neg (fun x => x hce)).trans rfl).trans ((hR3.out.trans (pgm3_lev hce h4)).symm))
      go_wp2_with fail
      exact door_end P.out (by decide) rfl rfl F.out
    subst h4
    have hR4 := hR3.out.trans (pgm3_ok hce rfl)
    simp only at hR4
    replace hce := Lib.hid hce
    clear hR3 hce'
    have p := P.out
    clear P
    obtain ⟨⟨fi, c4⟩, h4⟩ : ∃ r, r = rd 0 (oneV l) c3 := ⟨_, rfl⟩
    have T := ps_one p
    rw [← h4] at T
    simp only at T
    replace T := Lib.hid T
    replace h4 := Lib.hid h4
    have cv := p.cvc
    clear p
    rw [← h4.out] at hR4
    obtain ⟨f, hf, hfi⟩ : ∃ f : Nat, f < 256 ∧ fi = (f : Int) := one_nat h256.out h4.out
    subst hfi
    unfold pgm4 at hR4
    simp only [Int.toNat_natCast] at hR4
    replace hR4 := Lib.hid hR4
    go_wp2_with fail
    refine T.out.mono ?_
    rintro e w5 ⟨rfl, p0⟩
    clear cv T
    have q := p0.setf (f : Int)
    have xi : w5.cell? ⟨g + 1 + 1, 0, none⟩ = some (.int .i64 0) := p0.flc
    have zi := p0.fl.fz 0
    clear p0
    have Q := Lib.hid q
    have KO := Lib.hid (fun W (hW : Below (w5.setCell ⟨g + 1 + 1, 0, none⟩ (.int .i64 (f : Int))).heap.size (w5.setCell ⟨g + 1 + 1, 0, none⟩ (.int .i64 (f : Int))) W) => (show W.cell? ⟨g + 1, 0, none⟩ = some (.pointer (some ⟨g, 0, none⟩)) ∧ W.cell? ⟨g + 1 + 1, 0, none⟩ = some (.int .i64 (f : Int)) from ⟨(Q.out.ext hW).cvc, (Q.out.ext hW).flc⟩))
    clear q
    go_wp2_with fail
    generalize hW5 : w5.setCell ⟨g + 1 + 1, 0, none⟩ (.int .i64 (f : Int)) = W5 at *
    clear hW5 xi zi
    go_region_held3 (fun W => W.cell? ⟨g + 1, 0, none⟩ = some (.pointer (some ⟨g, 0, none⟩)) ∧ W.cell? ⟨g + 1 + 1, 0, none⟩ = some (.int .i64 (f : Int)))
      (first | exact KO.out _ (by first | exact Below.refl _ _ | exact ext_drew _ | assumption) | exact KA.out)
      (first
        | (go_at_call 57; refine (flags_any f _ hf).mono ?_; rintro e w6 ⟨rfl, rfl⟩)
        | (go_at_call 55; refine (ps_fail (Q.out.ext (by first | exact Below.refl _ _ | exact ext_drew _ | assumption)) (flE f)).mono ?_; rintro e w6 ⟨rfl, p6⟩; have KA : Hid (w6.cell? ⟨g + 1, 0, none⟩ = some (.pointer (some ⟨g, 0, none⟩)) ∧ w6.cell? ⟨g + 1 + 1, 0, none⟩ = some (.int .i64 (f : Int))) := Lib.hid ⟨p6.cvc, p6.flc⟩; have P6 := Lib.hid p6; clear p6))
    obtain ⟨c5, h5⟩ : ∃ c5, c5 = c4.fail (flE f) := ⟨_, rfl⟩
    rw [← h5] at P6
    have hR5 : R = pKeep l (conF f) c5 f := by rw [h5]; exact hR4.out
    replace hR5 := Lib.hid hR5
    clear KO KA Q h5 hR4
    obtain ⟨a1, a2, a4, a32, a64, a128, a3⟩ := and_at hf
    clear a1 a32 a3
    obtain ⟨B2, hB2⟩ : ∃ b : Bool, b = (f / 2 % 2 == 1) := ⟨_, rfl⟩
    obtain ⟨B4, hB4⟩ : ∃ b : Bool, b = (f / 4 % 2 == 1) := ⟨_, rfl⟩
    obtain ⟨B64, hB64⟩ : ∃ b : Bool, b = (f / 64 % 2 == 1) := ⟨_, rfl⟩
    obtain ⟨B128, hB128⟩ : ∃ b : Bool, b = decide (128 ≤ f) := ⟨_, rfl⟩
    have e2 : (bits .and .i64 (f : Int) 2 != 0) = B2 := by
      rw [hB2, a2]
      rcases (show f / 2 % 2 = 0 ∨ f / 2 % 2 = 1 by omega) with e | e <;> rw [e] <;> rfl
    have e4 : (bits .and .i64 (f : Int) 4 != 0) = B4 := by
      rw [hB4, a4]
      rcases (show f / 4 % 2 = 0 ∨ f / 4 % 2 = 1 by omega) with e | e <;> rw [e] <;> rfl
    have e64 : (bits .and .i64 (f : Int) 64 != 0) = B64 := by
      rw [hB64, a64]
      rcases (show f / 64 % 2 = 0 ∨ f / 64 % 2 = 1 by omega) with e | e <;> rw [e] <;> rfl
    have e128 : (bits .and .i64 (f : Int) 128 != 0) = B128 := by
      rw [hB128, a128]
      rcases (show (f / 128 % 2 = 0 ∧ ¬ 128 ≤ f) ∨ (f / 128 % 2 = 1 ∧ 128 ≤ f) by omega) with ⟨e, e'⟩ | ⟨e, e'⟩ <;> rw [e] <;> simp [e']
    have hC : conF f = ⟨4, B2, 0, ⟨#[]⟩, B4, ⟨#[]⟩, ⟨#[]⟩, 0, false, B128, ⟨#[]⟩, B64, ⟨#[]⟩⟩ := by rw [hB2, hB4, hB64, hB128]; rfl
    rw [hC] at hR5
    clear a2 a4 a64 a128 hB2 hB4 hB64 hB128 hC
    clear y0 y2 cv xi zi
    have r0 := P6.out.ext (ext_drew _)
    have r1 := r0.setx 1 (.bool B2) (X' := ⟨4, B2, 0, ⟨#[]⟩, false, ⟨#[]⟩, ⟨#[]⟩, 0, false, false, ⟨#[]⟩, false, ⟨#[]⟩⟩) rfl
    have r2 := r1.setx 4 (.bool B4) (X' := ⟨4, B2, 0, ⟨#[]⟩, B4, ⟨#[]⟩, ⟨#[]⟩, 0, false, false, ⟨#[]⟩, false, ⟨#[]⟩⟩) rfl
    have r3 := r2.setx 9 (.bool B128) (X' := ⟨4, B2, 0, ⟨#[]⟩, B4, ⟨#[]⟩, ⟨#[]⟩, 0, false, B128, ⟨#[]⟩, false, ⟨#[]⟩⟩) rfl
    have r4 := r3.setx 11 (.bool B64) (X' := ⟨4, B2, 0, ⟨#[]⟩, B4, ⟨#[]⟩, ⟨#[]⟩, 0, false, B128, ⟨#[]⟩, B64, ⟨#[]⟩⟩) rfl
    have f6 := P6.out.flc
    have f0 := r0.flc
    have K1 := Lib.hid r1.flc
    have K2 := Lib.hid r2.flc
    have K3 := Lib.hid r3.flc
    have K4 := Lib.hid r4.flc
    have x1 : w6.drew.cell? ⟨w.heap.size, 1, none⟩ = some (.bool false) := (r0.x.cell 1).trans rfl
    have x4 : (w6.drew.setCell ⟨w.heap.size, 1, none⟩ (.bool B2)).cell? ⟨w.heap.size, 4, none⟩ = some (.bool false) := (r1.x.cell 4).trans rfl
    have x9 : ((w6.drew.setCell ⟨w.heap.size, 1, none⟩ (.bool B2)).setCell ⟨w.heap.size, 4, none⟩ (.bool B4)).cell? ⟨w.heap.size, 9, none⟩ = some (.bool false) := (r2.x.cell 9).trans rfl
    have x11 : (((w6.drew.setCell ⟨w.heap.size, 1, none⟩ (.bool B2)).setCell ⟨w.heap.size, 4, none⟩ (.bool B4)).setCell ⟨w.heap.size, 9, none⟩ (.bool B128)).cell? ⟨w.heap.size, 11, none⟩ = some (.bool false) := (r3.x.cell 11).trans rfl
    have z1 := r0.x.fz 1
    have z4 := r1.x.fz 4
    have z9 := r2.x.fz 9
    have z11 := r3.x.fz 11
    have y4 : w6.drew.cell? ⟨w.heap.size, 4, none⟩ = some (.bool false) := (r0.x.cell 4).trans rfl
    have y9 : w6.drew.cell? ⟨w.heap.size, 9, none⟩ = some (.bool false) := (r0.x.cell 9).trans rfl
    have y11 : w6.drew.cell? ⟨w.heap.size, 11, none⟩ = some (.bool false) := (r0.x.cell 11).trans rfl
    have u4 := r0.x.fz 4
    have u9 := r0.x.fz 9
    have u11 := r0.x.fz 11
    have d1 : w6.cell? ⟨w.heap.size, 1, none⟩ = some (.bool false) := (P6.out.x.cell 1).trans rfl
    have d4 : w6.cell? ⟨w.heap.size, 4, none⟩ = some (.bool false) := (P6.out.x.cell 4).trans rfl
    have d9 : w6.cell? ⟨w.heap.size, 9, none⟩ = some (.bool false) := (P6.out.x.cell 9).trans rfl
    have d11 : w6.cell? ⟨w.heap.size, 11, none⟩ = some (.bool false) := (P6.out.x.cell 11).trans rfl
    have s1 := P6.out.x.fz 1
    have s4 := P6.out.x.fz 4
    have s9 := P6.out.x.fz 9
    have s11 := P6.out.x.fz 11
    have P7 := Lib.hid (((((P6.out.setx 1 (.bool B2) (X' := ⟨4, B2, 0, ⟨#[]⟩, false, ⟨#[]⟩, ⟨#[]⟩, 0, false, false, ⟨#[]⟩, false, ⟨#[]⟩⟩) rfl).setx 4 (.bool B4) (X' := ⟨4, B2, 0, ⟨#[]⟩, B4, ⟨#[]⟩, ⟨#[]⟩, 0, false, false, ⟨#[]⟩, false, ⟨#[]⟩⟩) rfl).setx 9 (.bool B128) (X' := ⟨4, B2, 0, ⟨#[]⟩, B4, ⟨#[]⟩, ⟨#[]⟩, 0, false, B128, ⟨#[]⟩, false, ⟨#[]⟩⟩) rfl).setx 11 (.bool B64) (X' := ⟨4, B2, 0, ⟨#[]⟩, B4, ⟨#[]⟩, ⟨#[]⟩, 0, false, B128, ⟨#[]⟩, B64, ⟨#[]⟩⟩) rfl).ext (ext_drew _))
    clear r0 r1 r2 r3 r4
    go_wp2_with fail
    go_region_held3 (fun W => W.cell? ⟨g + 1 + 1, 0, none⟩ = some (.int .i64 (f : Int)))
      (first | exact f0 | exact K1.out | exact K2.out | exact K3.out | exact K4.out)
      (first | fail)
    clear d1 d4 d9 d11 s1 s4 s9 s11 y4 y9 y11 u4 u9 u11 f6 f0 x1 x4 x9 x11 z1 z4 z9 z11 e2 e4 e64 e128 K1 K2 K3 K4 P6
    have p := P7.out
    clear P7
    generalize ((((w6.setCell ⟨w.heap.size, 1, none⟩ (.bool B2)).setCell ⟨w.heap.size, 4, none⟩ (.bool B4)).setCell ⟨w.heap.size, 9, none⟩ (.bool B128)).setCell ⟨w.heap.size, 11, none⟩ (.bool B64)).drew = W7 at *
    obtain ⟨⟨kp, c6⟩, h6⟩ : ∃ r, r = rd 0 (get2V l) c5 := ⟨_, rfl⟩
    have T := ps_two p
    rw [← h6] at T
    simp only at T
    replace T := Lib.hid T
    replace h6 := Lib.hid h6
    have cv := p.cvc
    clear p
    have hR6 : R = pRest l ⟨4, B2, kp, ⟨#[]⟩, B4, ⟨#[]⟩, ⟨#[]⟩, 0, false, B128, ⟨#[]⟩, B64, ⟨#[]⟩⟩ c6 f := by
      have hx := hR5.out
      unfold pKeep at hx
      simp only [if_true, if_false, Bool.false_eq_true] at hx
      rw [← h6.out] at hx
      simp only at hx
      exact hx
    replace hR6 := Lib.hid hR6
    clear hR5
    go_wp2_with fail
    refine T.out.mono ?_
    rintro e w8 ⟨rfl, p0⟩
    clear cv T
    have q := p0.setx 2 (.int .i64 kp) (X' := ⟨4, B2, kp, ⟨#[]⟩, B4, ⟨#[]⟩, ⟨#[]⟩, 0, false, B128, ⟨#[]⟩, B64, ⟨#[]⟩⟩) rfl
    have xi : w8.cell? ⟨w.heap.size, 2, none⟩ = some (.int .i64 0) := (p0.x.cell 2).trans rfl
    have zi := p0.x.fz 2
    clear p0
    have p := q
    clear q
    obtain ⟨⟨cl, c7⟩, h7⟩ : ∃ r, r = rd ⟨#[]⟩ (getV l) c6 := ⟨_, rfl⟩
    have T := ps_text p
    rw [← h7] at T
    simp only at T
    replace T := Lib.hid T
    replace h7 := Lib.hid h7
    have cv := p.cvc
    clear p
    have hR7 : R = pWill l ⟨4, B2, kp, cl, B4, ⟨#[]⟩, ⟨#[]⟩, 0, false, B128, ⟨#[]⟩, B64, ⟨#[]⟩⟩ c7 f := by
      have hx := hR6.out
      unfold pRest at hx
      simp only [if_true, if_false, Bool.false_eq_true] at hx
      rw [← h7.out] at hx
      simp only at hx
      exact hx
    replace hR7 := Lib.hid hR7
    clear hR6
    go_wp2_with fail
    refine T.out.mono ?_
    rintro e w9 ⟨rfl, p0⟩
    clear cv T
    clear xi zi
    have q := p0.setx 3 (.string cl) (X' := ⟨4, B2, kp, cl, B4, ⟨#[]⟩, ⟨#[]⟩, 0, false, B128, ⟨#[]⟩, B64, ⟨#[]⟩⟩) rfl
    have xi : w9.cell? ⟨w.heap.size, 3, none⟩ = some (.string ⟨#[]⟩) := (p0.x.cell 3).trans rfl
    have zi := p0.x.fz 3
    clear p0
    have p := q
    clear q
    have y4 : (w9.setCell ⟨w.heap.size, 3, none⟩ (.string cl)).cell? ⟨w.heap.size, 4, none⟩ = some (.bool B4) := (p.x.cell 4).trans rfl
    cases B4
    case false =>
      have hR8 : R = pUser l ⟨4, B2, kp, cl, false, ⟨#[]⟩, ⟨#[]⟩, 0, false, B128, ⟨#[]⟩, B64, ⟨#[]⟩⟩ c7 f := by
        have hx := hR7.out
        unfold pWill at hx
        simp only [if_true, if_false, Bool.false_eq_true] at hx
        exact hx
      replace hR8 := Lib.hid hR8
      clear hR7
      have y9 : (w9.setCell ⟨w.heap.size, 3, none⟩ (.string cl)).cell? ⟨w.heap.size, 9, none⟩ = some (.bool B128) := (p.x.cell 9).trans rfl
      cases B128
      case false =>
        have hR9 : R = pPass l ⟨4, B2, kp, cl, false, ⟨#[]⟩, ⟨#[]⟩, 0, false, false, ⟨#[]⟩, B64, ⟨#[]⟩⟩ c7 f := by
          have hx := hR8.out
          unfold pUser at hx
          simp only [if_true, if_false, Bool.false_eq_true] at hx
          exact hx
        replace hR9 := Lib.hid hR9
        clear hR8
        have y11 : (w9.setCell ⟨w.heap.size, 3, none⟩ (.string cl)).cell? ⟨w.heap.size, 11, none⟩ = some (.bool B64) := (p.x.cell 11).trans rfl
        cases B64
        case false =>
          have hR10 : R = pEnd l ⟨4, B2, kp, cl, false, ⟨#[]⟩, ⟨#[]⟩, 0, false, false, ⟨#[]⟩, false, ⟨#[]⟩⟩ c7 f := by
            have hx := hR9.out
            unfold pPass at hx
            simp only [if_true, if_false, Bool.false_eq_true] at hx
            exact hx
          replace hR10 := Lib.hid hR10
          clear hR9
          have c0 := p.cur.c0
          have c1' := p.cur.c1
          have cv := p.cvc
          have P := Lib.hid p
          clear p
          by_cases hlt : c7.at' < (s.size : Int)
          · have FP := Lib.hid (fun n => ps_fail (P.out.ext (below_drewN (Below.refl _ _) n)) 4)
            have hF : fin ⟨4, B2, kp, cl, false, ⟨#[]⟩, ⟨#[]⟩, 0, false, false, ⟨#[]⟩, false, ⟨#[]⟩⟩ (c7.fail 4) f = R := by
              have hx := hR10.out
              unfold pEnd at hx
              rw [hls.out, if_pos hlt] at hx
              exact hx.symm
            replace hF := Lib.hid hF
            go_wp2_with fail
            go_quiet (fail)
            have cvq := (P.out.ext (below_drewN (Below.refl _ _) nq)).cvc
            go_wp2_with fail
            refine (FP.out nq).mono ?_
            rintro e wz ⟨rfl, pz⟩
            clear FP P c0 c1' cv cvq
            go_wp2_with fail
            first | exact door_end pz hf rfl rfl hF.out | exact door_end0 pz hf rfl rfl hF.out
          · have hF : fin ⟨4, B2, kp, cl, false, ⟨#[]⟩, ⟨#[]⟩, 0, false, false, ⟨#[]⟩, false, ⟨#[]⟩⟩ c7 f = R := by
              have hx := hR10.out
              unfold pEnd at hx
              rw [hls.out, if_neg hlt] at hx
              exact hx.symm
            replace hF := Lib.hid hF
            go_wp2_with fail
            go_quiet (fail)
            go_wp2_with fail
            first | exact door_end (P.out.ext (below_drewN (Below.refl _ _) nq)) hf rfl rfl hF.out | exact door_end0 (P.out.ext (below_drewN (Below.refl _ _) nq)) hf rfl rfl hF.out
        case true =>
          obtain ⟨⟨pw, c11⟩, h11⟩ : ∃ r, r = rd ⟨#[]⟩ (rawV l) c7 := ⟨_, rfl⟩
          have T := ps_raw p
          rw [← h11] at T
          simp only at T
          replace T := Lib.hid T
          replace h11 := Lib.hid h11
          have cv := p.cvc
          clear p
          have hR10 : R = pEnd l ⟨4, B2, kp, cl, false, ⟨#[]⟩, ⟨#[]⟩, 0, false, false, ⟨#[]⟩, true, pw⟩ c11 f := by
            have hx := hR9.out
            unfold pPass at hx
            simp only [if_true, if_false, Bool.false_eq_true] at hx
            rw [← h11.out] at hx
            simp only at hx
            exact hx
          replace hR10 := Lib.hid hR10
          clear hR9
          go_wp2_with fail
          refine T.out.mono ?_
          rintro e w13 ⟨rfl, p0⟩
          clear cv T
          have q := p0.setx 12 (.string pw) (X' := ⟨4, B2, kp, cl, false, ⟨#[]⟩, ⟨#[]⟩, 0, false, false, ⟨#[]⟩, true, pw⟩) rfl
          have xi : w13.cell? ⟨w.heap.size, 12, none⟩ = some (.string ⟨#[]⟩) := (p0.x.cell 12).trans rfl
          have zi := p0.x.fz 12
          clear p0
          have p := q
          clear q
          have c0 := p.cur.c0
          have c1' := p.cur.c1
          have cv := p.cvc
          have P := Lib.hid p
          clear p
          by_cases hlt : c11.at' < (s.size : Int)
          · have FP := Lib.hid (fun n => ps_fail (P.out.ext (below_drewN (Below.refl _ _) n)) 4)
            have hF : fin ⟨4, B2, kp, cl, false, ⟨#[]⟩, ⟨#[]⟩, 0, false, false, ⟨#[]⟩, true, pw⟩ (c11.fail 4) f = R := by
              have hx := hR10.out
              unfold pEnd at hx
              rw [hls.out, if_pos hlt] at hx
              exact hx.symm
            replace hF := Lib.hid hF
            go_wp2_with fail
            go_quiet (fail)
            have cvq := (P.out.ext (below_drewN (Below.refl _ _) nq)).cvc
            go_wp2_with fail
            refine (FP.out nq).mono ?_
            rintro e wz ⟨rfl, pz⟩
            clear FP P c0 c1' cv cvq
            go_wp2_with fail
            first | exact door_end pz hf rfl rfl hF.out | exact door_end0 pz hf rfl rfl hF.out
          · have hF : fin ⟨4, B2, kp, cl, false, ⟨#[]⟩, ⟨#[]⟩, 0, false, false, ⟨#[]⟩, true, pw⟩ c11 f = R := by
              have hx := hR10.out
              unfold pEnd at hx
              rw [hls.out, if_neg hlt] at hx
              exact hx.symm
            replace hF := Lib.hid hF
            go_wp2_with fail
            go_quiet (fail)
            go_wp2_with fail
            first | exact door_end (P.out.ext (below_drewN (Below.refl _ _) nq)) hf rfl rfl hF.out | exact door_end0 (P.out.ext (below_drewN (Below.refl _ _) nq)) hf rfl rfl hF.out
      case true =>
        obtain ⟨⟨us, c10⟩, h10⟩ : ∃ r, r = rd ⟨#[]⟩ (getV l) c7 := ⟨_, rfl⟩
        have T := ps_text p
        rw [← h10] at T
        simp only at T
        replace T := Lib.hid T
        replace h10 := Lib.hid h10
        have cv := p.cvc
        clear p
        have hR9 : R = pPass l ⟨4, B2, kp, cl, false, ⟨#[]⟩, ⟨#[]⟩, 0, false, true, us, B64, ⟨#[]⟩⟩ c10 f := by
          have hx := hR8.out
          unfold pUser at hx
          simp only [if_true, if_false, Bool.false_eq_true] at hx
          rw [← h10.out] at hx
          simp only at hx
          exact hx
        replace hR9 := Lib.hid hR9
        clear hR8
        go_wp2_with fail
        refine T.out.mono ?_
        rintro e w12 ⟨rfl, p0⟩
        clear cv T
        have q := p0.setx 10 (.string us) (X' := ⟨4, B2, kp, cl, false, ⟨#[]⟩, ⟨#[]⟩, 0, false, true, us, B64, ⟨#[]⟩⟩) rfl
        have xi : w12.cell? ⟨w.heap.size, 10, none⟩ = some (.string ⟨#[]⟩) := (p0.x.cell 10).trans rfl
        have zi := p0.x.fz 10
        clear p0
        have p := q
        clear q
        have y11 : (w12.setCell ⟨w.heap.size, 10, none⟩ (.string us)).cell? ⟨w.heap.size, 11, none⟩ = some (.bool B64) := (p.x.cell 11).trans rfl
        cases B64
        case false =>
          have hR10 : R = pEnd l ⟨4, B2, kp, cl, false, ⟨#[]⟩, ⟨#[]⟩, 0, false, true, us, false, ⟨#[]⟩⟩ c10 f := by
            have hx := hR9.out
            unfold pPass at hx
            simp only [if_true, if_false, Bool.false_eq_true] at hx
            exact hx
          replace hR10 := Lib.hid hR10
          clear hR9
          have c0 := p.cur.c0
          have c1' := p.cur.c1
          have cv := p.cvc
          have P := Lib.hid p
          clear p
          by_cases hlt : c10.at' < (s.size : Int)
          · have FP := Lib.hid (fun n => ps_fail (P.out.ext (below_drewN (Below.refl _ _) n)) 4)
            have hF : fin ⟨4, B2, kp, cl, false, ⟨#[]⟩, ⟨#[]⟩, 0, false, true, us, false, ⟨#[]⟩⟩ (c10.fail 4) f = R := by
              have hx := hR10.out
              unfold pEnd at hx
              rw [hls.out, if_pos hlt] at hx
              exact hx.symm
            replace hF := Lib.hid hF
            go_wp2_with fail
            go_quiet (fail)
            have cvq := (P.out.ext (below_drewN (Below.refl _ _) nq)).cvc
            go_wp2_with fail
            refine (FP.out nq).mono ?_
            rintro e wz ⟨rfl, pz⟩
            clear FP P c0 c1' cv cvq
            go_wp2_with fail
            first | exact door_end pz hf rfl rfl hF.out | exact door_end0 pz hf rfl rfl hF.out
          · have hF : fin ⟨4, B2, kp, cl, false, ⟨#[]⟩, ⟨#[]⟩, 0, false, true, us, false, ⟨#[]⟩⟩ c10 f = R := by
              have hx := hR10.out
              unfold pEnd at hx
              rw [hls.out, if_neg hlt] at hx
              exact hx.symm
            replace hF := Lib.hid hF
            go_wp2_with fail
            go_quiet (fail)
            go_wp2_with fail
            first | exact door_end (P.out.ext (below_drewN (Below.refl _ _) nq)) hf rfl rfl hF.out | exact door_end0 (P.out.ext (below_drewN (Below.refl _ _) nq)) hf rfl rfl hF.out
        case true =>
          obtain ⟨⟨pw, c11⟩, h11⟩ : ∃ r, r = rd ⟨#[]⟩ (rawV l) c10 := ⟨_, rfl⟩
          have T := ps_raw p
          rw [← h11] at T
          simp only at T
          replace T := Lib.hid T
          replace h11 := Lib.hid h11
          have cv := p.cvc
          clear p
          have hR10 : R = pEnd l ⟨4, B2, kp, cl, false, ⟨#[]⟩, ⟨#[]⟩, 0, false, true, us, true, pw⟩ c11 f := by
            have hx := hR9.out
            unfold pPass at hx
            simp only [if_true, if_false, Bool.false_eq_true] at hx
            rw [← h11.out] at hx
            simp only at hx
            exact hx
          replace hR10 := Lib.hid hR10
          clear hR9
          go_wp2_with fail
          refine T.out.mono ?_
          rintro e w13 ⟨rfl, p0⟩
          clear cv T
          have q := p0.setx 12 (.string pw) (X' := ⟨4, B2, kp, cl, false, ⟨#[]⟩, ⟨#[]⟩, 0, false, true, us, true, pw⟩) rfl
          have xi : w13.cell? ⟨w.heap.size, 12, none⟩ = some (.string ⟨#[]⟩) := (p0.x.cell 12).trans rfl
          have zi := p0.x.fz 12
          clear p0
          have p := q
          clear q
          have c0 := p.cur.c0
          have c1' := p.cur.c1
          have cv := p.cvc
          have P := Lib.hid p
          clear p
          by_cases hlt : c11.at' < (s.size : Int)
          · have FP := Lib.hid (fun n => ps_fail (P.out.ext (below_drewN (Below.refl _ _) n)) 4)
            have hF : fin ⟨4, B2, kp, cl, false, ⟨#[]⟩, ⟨#[]⟩, 0, false, true, us, true, pw⟩ (c11.fail 4) f = R := by
              have hx := hR10.out
              unfold pEnd at hx
              rw [hls.out, if_pos hlt] at hx
              exact hx.symm
            replace hF := Lib.hid hF
            go_wp2_with fail
            go_quiet (fail)
            have cvq := (P.out.ext (below_drewN (Below.refl _ _) nq)).cvc
            go_wp2_with fail
            refine (FP.out nq).mono ?_
            rintro e wz ⟨rfl, pz⟩
            clear FP P c0 c1' cv cvq
            go_wp2_with fail
            first | exact door_end pz hf rfl rfl hF.out | exact door_end0 pz hf rfl rfl hF.out
          · have hF : fin ⟨4, B2, kp, cl, false, ⟨#[]⟩, ⟨#[]⟩, 0, false, true, us, true, pw⟩ c11 f = R := by
              have hx := hR10.out
              unfold pEnd at hx
              rw [hls.out, if_neg hlt] at hx
              exact hx.symm
            replace hF := Lib.hid hF
            go_wp2_with fail
            go_quiet (fail)
            go_wp2_with fail
            first | exact door_end (P.out.ext (below_drewN (Below.refl _ _) nq)) hf rfl rfl hF.out | exact door_end0 (P.out.ext (below_drewN (Below.refl _ _) nq)) hf rfl rfl hF.out
    case true =>
      obtain ⟨⟨tp, c8⟩, h8⟩ : ∃ r, r = rd ⟨#[]⟩ (getV l) c7 := ⟨_, rfl⟩
      have T := ps_text p
      rw [← h8] at T
      simp only at T
      replace T := Lib.hid T
      replace h8 := Lib.hid h8
      have cv := p.cvc
      clear p
      go_wp2_with fail
      refine T.out.mono ?_
      rintro e w10 ⟨rfl, p0⟩
      clear cv T
      clear y4
      have q := p0.setx 5 (.string tp) (X' := ⟨4, B2, kp, cl, true, tp, ⟨#[]⟩, 0, false, B128, ⟨#[]⟩, B64, ⟨#[]⟩⟩) rfl
      have xi : w10.cell? ⟨w.heap.size, 5, none⟩ = some (.string ⟨#[]⟩) := (p0.x.cell 5).trans rfl
      have zi := p0.x.fz 5
      clear p0
      have p := q
      clear q
      obtain ⟨⟨tx, c9⟩, h9⟩ : ∃ r, r = rd ⟨#[]⟩ (rawV l) c8 := ⟨_, rfl⟩
      have T := ps_raw p
      rw [← h9] at T
      simp only at T
      replace T := Lib.hid T
      replace h9 := Lib.hid h9
      have cv := p.cvc
      clear p
      have hR8 : R = pUser l ⟨4, B2, kp, cl, true, tp, tx, 0, false, B128, ⟨#[]⟩, B64, ⟨#[]⟩⟩ c9 f := by
        have hx := hR7.out
        unfold pWill at hx
        simp only [if_true, if_false, Bool.false_eq_true] at hx
        rw [← h8.out] at hx
        simp only at hx
        rw [← h9.out] at hx
        simp only at hx
        exact hx
      replace hR8 := Lib.hid hR8
      clear hR7
      go_wp2_with fail
      refine T.out.mono ?_
      rintro e w11 ⟨rfl, p0⟩
      clear cv T
      clear xi zi
      have q := p0.setx 6 (.string tx) (X' := ⟨4, B2, kp, cl, true, tp, tx, 0, false, B128, ⟨#[]⟩, B64, ⟨#[]⟩⟩) rfl
      have xi : w11.cell? ⟨w.heap.size, 6, none⟩ = some (.string ⟨#[]⟩) := (p0.x.cell 6).trans rfl
      have zi := p0.x.fz 6
      clear p0
      have p := q
      clear q
      have y9 : (w11.setCell ⟨w.heap.size, 6, none⟩ (.string tx)).cell? ⟨w.heap.size, 9, none⟩ = some (.bool B128) := (p.x.cell 9).trans rfl
      cases B128
      case false =>
        have hR9 : R = pPass l ⟨4, B2, kp, cl, true, tp, tx, 0, false, false, ⟨#[]⟩, B64, ⟨#[]⟩⟩ c9 f := by
          have hx := hR8.out
          unfold pUser at hx
          simp only [if_true, if_false, Bool.false_eq_true] at hx
          exact hx
        replace hR9 := Lib.hid hR9
        clear hR8
        have y11 : (w11.setCell ⟨w.heap.size, 6, none⟩ (.string tx)).cell? ⟨w.heap.size, 11, none⟩ = some (.bool B64) := (p.x.cell 11).trans rfl
        cases B64
        case false =>
          have hR10 : R = pEnd l ⟨4, B2, kp, cl, true, tp, tx, 0, false, false, ⟨#[]⟩, false, ⟨#[]⟩⟩ c9 f := by
            have hx := hR9.out
            unfold pPass at hx
            simp only [if_true, if_false, Bool.false_eq_true] at hx
            exact hx
          replace hR10 := Lib.hid hR10
          clear hR9
          have c0 := p.cur.c0
          have c1' := p.cur.c1
          have cv := p.cvc
          have P := Lib.hid p
          clear p
          by_cases hlt : c9.at' < (s.size : Int)
          · have FP := Lib.hid (fun n => ps_fail (P.out.ext (below_drewN (Below.refl _ _) n)) 4)
            have hF : fin ⟨4, B2, kp, cl, true, tp, tx, 0, false, false, ⟨#[]⟩, false, ⟨#[]⟩⟩ (c9.fail 4) f = R := by
              have hx := hR10.out
              unfold pEnd at hx
              rw [hls.out, if_pos hlt] at hx
              exact hx.symm
            replace hF := Lib.hid hF
            go_wp2_with fail
            go_quiet (fail)
            have cvq := (P.out.ext (below_drewN (Below.refl _ _) nq)).cvc
            go_wp2_with fail
            refine (FP.out nq).mono ?_
            rintro e wz ⟨rfl, pz⟩
            clear FP P c0 c1' cv cvq
            go_wp2_with fail
            first | exact door_end pz hf rfl rfl hF.out | exact door_end0 pz hf rfl rfl hF.out
          · have hF : fin ⟨4, B2, kp, cl, true, tp, tx, 0, false, false, ⟨#[]⟩, false, ⟨#[]⟩⟩ c9 f = R := by
              have hx := hR10.out
              unfold pEnd at hx
              rw [hls.out, if_neg hlt] at hx
              exact hx.symm
            replace hF := Lib.hid hF
            go_wp2_with fail
            go_quiet (fail)
            go_wp2_with fail
            first | exact door_end (P.out.ext (below_drewN (Below.refl _ _) nq)) hf rfl rfl hF.out | exact door_end0 (P.out.ext (below_drewN (Below.refl _ _) nq)) hf rfl rfl hF.out
        case true =>
          obtain ⟨⟨pw, c11⟩, h11⟩ : ∃ r, r = rd ⟨#[]⟩ (rawV l) c9 := ⟨_, rfl⟩
          have T := ps_raw p
          rw [← h11] at T
          simp only at T
          replace T := Lib.hid T
          replace h11 := Lib.hid h11
          have cv := p.cvc
          clear p
          have hR10 : R = pEnd l ⟨4, B2, kp, cl, true, tp, tx, 0, false, false, ⟨#[]⟩, true, pw⟩ c11 f := by
            have hx := hR9.out
            unfold pPass at hx
            simp only [if_true, if_false, Bool.false_eq_true] at hx
            rw [← h11.out] at hx
            simp only at hx
            exact hx
          replace hR10 := Lib.hid hR10
          clear hR9
          go_wp2_with fail
          refine T.out.mono ?_
          rintro e w13 ⟨rfl, p0⟩
          clear cv T
          have q := p0.setx 12 (.string pw) (X' := ⟨4, B2, kp, cl, true, tp, tx, 0, false, false, ⟨#[]⟩, true, pw⟩) rfl
          have xi : w13.cell? ⟨w.heap.size, 12, none⟩ = some (.string ⟨#[]⟩) := (p0.x.cell 12).trans rfl
          have zi := p0.x.fz 12
          clear p0
          have p := q
          clear q
          have c0 := p.cur.c0
          have c1' := p.cur.c1
          have cv := p.cvc
          have P := Lib.hid p
          clear p
          by_cases hlt : c11.at' < (s.size : Int)
          · have FP := Lib.hid (fun n => ps_fail (P.out.ext (below_drewN (Below.refl _ _) n)) 4)
            have hF : fin ⟨4, B2, kp, cl, true, tp, tx, 0, false, false, ⟨#[]⟩, true, pw⟩ (c11.fail 4) f = R := by
              have hx := hR10.out
              unfold pEnd at hx
              rw [hls.out, if_pos hlt] at hx
              exact hx.symm
            replace hF := Lib.hid hF
            go_wp2_with fail
            go_quiet (fail)
            have cvq := (P.out.ext (below_drewN (Below.refl _ _) nq)).cvc
            go_wp2_with fail
            refine (FP.out nq).mono ?_
            rintro e wz ⟨rfl, pz⟩
            clear FP P c0 c1' cv cvq
            go_wp2_with fail
            first | exact door_end pz hf rfl rfl hF.out | exact door_end0 pz hf rfl rfl hF.out
          · have hF : fin ⟨4, B2, kp, cl, true, tp, tx, 0, false, false, ⟨#[]⟩, true, pw⟩ c11 f = R := by
              have hx := hR10.out
              unfold pEnd at hx
              rw [hls.out, if_neg hlt] at hx
              exact hx.symm
            replace hF := Lib.hid hF
            go_wp2_with fail
            go_quiet (fail)
            go_wp2_with fail
            first | exact door_end (P.out.ext (below_drewN (Below.refl _ _) nq)) hf rfl rfl hF.out | exact door_end0 (P.out.ext (below_drewN (Below.refl _ _) nq)) hf rfl rfl hF.out
      case true =>
        obtain ⟨⟨us, c10⟩, h10⟩ : ∃ r, r = rd ⟨#[]⟩ (getV l) c9 := ⟨_, rfl⟩
        have T := ps_text p
        rw [← h10] at T
        simp only at T
        replace T := Lib.hid T
        replace h10 := Lib.hid h10
        have cv := p.cvc
        clear p
        have hR9 : R = pPass l ⟨4, B2, kp, cl, true, tp, tx, 0, false, true, us, B64, ⟨#[]⟩⟩ c10 f := by
          have hx := hR8.out
          unfold pUser at hx
          simp only [if_true, if_false, Bool.false_eq_true] at hx
          rw [← h10.out] at hx
          simp only at hx
          exact hx
        replace hR9 := Lib.hid hR9
        clear hR8
        go_wp2_with fail
        refine T.out.mono ?_
        rintro e w12 ⟨rfl, p0⟩
        clear cv T
        have q := p0.setx 10 (.string us) (X' := ⟨4, B2, kp, cl, true, tp, tx, 0, false, true, us, B64, ⟨#[]⟩⟩) rfl
        have xi : w12.cell? ⟨w.heap.size, 10, none⟩ = some (.string ⟨#[]⟩) := (p0.x.cell 10).trans rfl
        have zi := p0.x.fz 10
        clear p0
        have p := q
        clear q
        have y11 : (w12.setCell ⟨w.heap.size, 10, none⟩ (.string us)).cell? ⟨w.heap.size, 11, none⟩ = some (.bool B64) := (p.x.cell 11).trans rfl
        cases B64
        case false =>
          have hR10 : R = pEnd l ⟨4, B2, kp, cl, true, tp, tx, 0, false, true, us, false, ⟨#[]⟩⟩ c10 f := by
            have hx := hR9.out
            unfold pPass at hx
            simp only [if_true, if_false, Bool.false_eq_true] at hx
            exact hx
          replace hR10 := Lib.hid hR10
          clear hR9
          have c0 := p.cur.c0
          have c1' := p.cur.c1
          have cv := p.cvc
          have P := Lib.hid p
          clear p
          by_cases hlt : c10.at' < (s.size : Int)
          · have FP := Lib.hid (fun n => ps_fail (P.out.ext (below_drewN (Below.refl _ _) n)) 4)
            have hF : fin ⟨4, B2, kp, cl, true, tp, tx, 0, false, true, us, false, ⟨#[]⟩⟩ (c10.fail 4) f = R := by
              have hx := hR10.out
              unfold pEnd at hx
              rw [hls.out, if_pos hlt] at hx
              exact hx.symm
            replace hF := Lib.hid hF
            go_wp2_with fail
            go_quiet (fail)
            have cvq := (P.out.ext (below_drewN (Below.refl _ _) nq)).cvc
            go_wp2_with fail
            refine (FP.out nq).mono ?_
            rintro e wz ⟨rfl, pz⟩
            clear FP P c0 c1' cv cvq
            go_wp2_with fail
            first | exact door_end pz hf rfl rfl hF.out | exact door_end0 pz hf rfl rfl hF.out
          · have hF : fin ⟨4, B2, kp, cl, true, tp, tx, 0, false, true, us, false, ⟨#[]⟩⟩ c10 f = R := by
              have hx := hR10.out
              unfold pEnd at hx
              rw [hls.out, if_neg hlt] at hx
              exact hx.symm
            replace hF := Lib.hid hF
            go_wp2_with fail
            go_quiet (fail)
            go_wp2_with fail
            first | exact door_end (P.out.ext (below_drewN (Below.refl _ _) nq)) hf rfl rfl hF.out | exact door_end0 (P.out.ext (below_drewN (Below.refl _ _) nq)) hf rfl rfl hF.out
        case true =>
          obtain ⟨⟨pw, c11⟩, h11⟩ : ∃ r, r = rd ⟨#[]⟩ (rawV l) c10 := ⟨_, rfl⟩
          have T := ps_raw p
          rw [← h11] at T
          simp only at T
          replace T := Lib.hid T
          replace h11 := Lib.hid h11
          have cv := p.cvc
          clear p
          have hR10 : R = pEnd l ⟨4, B2, kp, cl, true, tp, tx, 0, false, true, us, true, pw⟩ c11 f := by
            have hx := hR9.out
            unfold pPass at hx
            simp only [if_true, if_false, Bool.false_eq_true] at hx
            rw [← h11.out] at hx
            simp only at hx
            exact hx
          replace hR10 := Lib.hid hR10
          clear hR9
          go_wp2_with fail
          refine T.out.mono ?_
          rintro e w13 ⟨rfl, p0⟩
          clear cv T
          have q := p0.setx 12 (.string pw) (X' := ⟨4, B2, kp, cl, true, tp, tx, 0, false, true, us, true, pw⟩) rfl
          have xi : w13.cell? ⟨w.heap.size, 12, none⟩ = some (.string ⟨#[]⟩) := (p0.x.cell 12).trans rfl
          have zi := p0.x.fz 12
          clear p0
          have p := q
          clear q
          have c0 := p.cur.c0
          have c1' := p.cur.c1
          have cv := p.cvc
          have P := Lib.hid p
          clear p
          by_cases hlt : c11.at' < (s.size : Int)
          · have FP := Lib.hid (fun n => ps_fail (P.out.ext (below_drewN (Below.refl _ _) n)) 4)
            have hF : fin ⟨4, B2, kp, cl, true, tp, tx, 0, false, true, us, true, pw⟩ (c11.fail 4) f = R := by
              have hx := hR10.out
              unfold pEnd at hx
              rw [hls.out, if_pos hlt] at hx
              exact hx.symm
            replace hF := Lib.hid hF
            go_wp2_with fail
            go_quiet (fail)
            have cvq := (P.out.ext (below_drewN (Below.refl _ _) nq)).cvc
            go_wp2_with fail
            refine (FP.out nq).mono ?_
            rintro e wz ⟨rfl, pz⟩
            clear FP P c0 c1' cv cvq
            go_wp2_with fail
            first | exact door_end pz hf rfl rfl hF.out | exact door_end0 pz hf rfl rfl hF.out
          · have hF : fin ⟨4, B2, kp, cl, true, tp, tx, 0, false, true, us, true, pw⟩ c11 f = R := by
              have hx := hR10.out
              unfold pEnd at hx
              rw [hls.out, if_neg hlt] at hx
              exact hx.symm
            replace hF := Lib.hid hF
            go_wp2_with fail
            go_quiet (fail)
            go_wp2_with fail
            first | exact door_end (P.out.ext (below_drewN (Below.refl _ _) nq)) hf rfl rfl hF.out | exact door_end0 (P.out.ext (below_drewN (Below.refl _ _) nq)) hf rfl rfl hF.out
  · have hd : (s1.toList == [77, 81, 84, 84]) = false := by
      rw [beq_eq_false_iff_ne]
      exact fun e => hm (by rw [← mqttL, ByteArray.toList_eq, ByteArray.toList_eq] at e; exact ByteArray.ext (Array.toList_inj.1 e))
    have hce : (c1.fail 15).e ≠ 0 := by unfold Cu.fail; split <;> simp_all
    have hR3 := hR.out.trans (pgm2_no hm)
    rw [rd_err hce] at hR3
    replace hR3 := Lib.hid hR3
    clear hR
    have T := Lib.hid (ps_fail p 15)
    have cv := p.cvc
    clear p
    go_wp2_with fail
    refine T.out.mono ?_
    rintro e w3 ⟨rfl, p⟩
    generalize c1.fail 15 = c3 at *
    have T3 := ps_one p
    rw [rd_err hce] at T3
    simp only at T3
    replace T3 := Lib.hid T3
    clear cv T
    have cv := p.cvc
    clear p
    go_wp2_with fail
    refine T3.out.mono ?_
    rintro e w4 ⟨rfl, p0⟩
    clear cv T3
    have q := p0.setx 0 (.int .i64 0) (X' := con0) rfl
    have cv := q.cvc
    have xi : w4.cell? ⟨w.heap.size, 0, none⟩ = some (.int .i64 0) := (p0.x.cell 0).trans rfl
    have zi := p0.x.fz 0
    have y2 := q.cur.c2
    have P := Lib.hid q
    have hce' : (c3.e != 0) = true := by simpa using hce
    have F := Lib.hid ((fin_err (X := con0) (f := 0) hce).trans ((hR3.out.trans (pgm3_err hce)).symm))
    clear p0 q
    go_wp2_with fail
    exact door_end P.out (by decide) rfl rfl F.out
  end
  end Go.Proofs.YtmpklaokgogigaaDoor.Con

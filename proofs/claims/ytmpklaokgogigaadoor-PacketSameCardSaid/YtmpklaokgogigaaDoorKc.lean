/-
  LAYER 13: the program's cursor.
-/
import Derived.Test.YtmpklaokgogigaaDoorKa
import Derived.Test.YtmpklaokgogigaaDoorSk
import Derived.Test.YtmpklaokgogigaaDoorBlk
import Derived.Deep.RegionHeld3
import Derived.Defers
import Derived.Recover
import Derived.Laws.Tables
import Derived.Laws.Rows
import Derived.FnLit
namespace Go.Proofs.YtmpklaokgogigaaDoor.Con
set_option linter.unusedVariables false
set_option linter.unusedSimpArgs false
open Go.Proofs.YtmpklaokgogigaaDoor
open Go.RowKit
theorem grown_trans {a b c : World} {m : Nat} (h : a.grownBy b (some m)) (k : b.grownBy c (some m)) : a.grownBy c (some m) :=
  ⟨k.os.trans h.os, k.tape.trans h.tape, k.output.trans h.output, Nat.le_trans h.size k.size, fun i hi hne => (k.block i (Nat.lt_of_lt_of_le hi h.size) hne).trans (h.block i hi hne)⟩
theorem grown_of {a b : World} {m : Nat} (h : Below a.heap.size a b) : a.grownBy b (some m) :=
  ⟨h.os, h.tape, h.output, h.size, fun i hi _ => h.block i hi⟩
theorem set_grown {w : World} {g j : Nat} {u : Value} : w.grownBy (w.setCell ⟨g, j, none⟩ u) (some g) := gset w g j u
/-- Bytes in a block k. -/
structure Bf (w : World) (k : Nat) (v : Value) (l : List Nat) : Prop where
  hv : ∃ cap, l.length ≤ cap ∧ v = .slice (some ⟨k, 0, none⟩) l.length cap
  row : ∃ cs fz, w.heap[k]? = some (.cells cs 5 fz) ∧ ∀ i, i < l.length → cs[i]? = some (.int .u8 ((l.getD i 0 : Nat) : Int))
variable {w w' : World} {k g : Nat} {v : Value} {l : List Nat} {c : Cu}
theorem Bf.lt (h : Bf w k v l) : k < w.heap.size := by obtain ⟨cs, fz, h, -⟩ := h.row; exact (Array.getElem?_eq_some_iff.1 h).1
theorem Bf.to (h : Bf w k v l) (e : w'.heap[k]? = w.heap[k]?) : Bf w' k v l := ⟨h.hv, by obtain ⟨cs, fz, h1, h2⟩ := h.row; exact ⟨cs, fz, e.trans h1, h2⟩⟩
theorem Bf.ext (h : Bf w k v l) (hb : Below w.heap.size w w') : Bf w' k v l := h.to (hb.block k h.lt)
theorem Bf.at (h : Bf w k v l) : BytesAt w v l := by
  obtain ⟨cap, hc, rfl⟩ := h.hv
  obtain ⟨cs, fz, h1, h2⟩ := h.row
  refine ⟨_, cap, rfl, ⟨hc, fun h => by cases h⟩, .inr ⟨k, 0, rfl, h.lt, fun i hi => ?_⟩⟩
  rw [cell_of_row w k _ cs 5 fz h1, Nat.zero_add]
  exact h2 i hi
theorem Bf.ne {cs : Array Value} {t : TypeId} {z : Nat × Nat} (h : Bf w k v l) (hg : w.heap[g]? = some (.cells cs t z)) (ht : t ≠ 5) : k ≠ g := fun e => by
  subst e
  obtain ⟨cs', fz, h1, -⟩ := h.row
  rw [h1] at hg
  simp only [Option.some.injEq, Obj.cells.injEq] at hg
  exact ht hg.2.1.symm
theorem bytes_in (s : ByteArray) (w : World) : ∃ v w', (convert 9 48 (.string s)).run Tryd.prog w = .ok v w' ∧ Bf w' w.heap.size v (txtL s) ∧ Below w.heap.size w w' ∧ w'.heap.size = w.heap.size + 1 := by
  refine ⟨_, _, run_bytes_of_string w 9 48 5 s Tryd.underlying9 Tryd.underlying48 Tryd.underlying5, ⟨⟨_, by rw [txtL_length]; exact grownCap_ge w s.size 0 5, by rw [txtL_length]⟩, ?_⟩, (Below.refl _ _).drew.alloc (Nat.le_refl _) _, by simp⟩
  refine ⟨_, _, heap_alloc_new _ _, fun i hi => ?_⟩
  rw [txtL_length] at hi
  have hi' : i < s.data.size := hi
  rw [bytesRow_at s _ i hi']
  simp [txtL, List.getD, Array.getElem?_eq_getElem hi']
/-- A cursor over bytes. -/
structure Cur (w : World) (g k : Nat) (v : Value) (l : List Nat) (c : Cu) : Prop where
  row : w.heap[g]? = some (.cells #[v, .int .i64 c.at', .int .i64 c.e] 105 (0, 0))
  bf : Bf w k v l
theorem Cur.lt (h : Cur w g k v l c) : g < w.heap.size := (Array.getElem?_eq_some_iff.1 h.row).1
theorem Cur.c0 (h : Cur w g k v l c) : w.cell? ⟨g, 0, none⟩ = some v := cell_of_row w g 0 _ 105 (0, 0) h.row
theorem Cur.c1 (h : Cur w g k v l c) : w.cell? ⟨g, 1, none⟩ = some (.int .i64 c.at') := cell_of_row w g 1 _ 105 (0, 0) h.row
theorem Cur.c2 (h : Cur w g k v l c) : w.cell? ⟨g, 2, none⟩ = some (.int .i64 c.e) := cell_of_row w g 2 _ 105 (0, 0) h.row
theorem Cur.fz (h : Cur w g k v l c) (j : Nat) : w.frozen? ⟨g, j, none⟩ = false := frozen_of_row w g j _ 105 h.row
theorem Cur.ext (h : Cur w g k v l c) (hb : Below w.heap.size w w') : Cur w' g k v l c := ⟨(hb.block g h.lt).trans h.row, h.bf.ext hb⟩
theorem Cur.setE (h : Cur w g k v l c) (e : Int) : Cur (w.setCell ⟨g, 2, none⟩ (.int .i64 e)) g k v l { c with e := e } :=
  ⟨by simpa using heap_setCell_same w g 2 _ 105 (.int .i64 e) h.row, h.bf.to (Below.heap_setCell w _ _ _ (h.bf.ne h.row (by decide)))⟩
theorem Cur.setA (h : Cur w g k v l c) (a : Int) : Cur (w.setCell ⟨g, 1, none⟩ (.int .i64 a)) g k v l { c with at' := a } :=
  ⟨by simpa using heap_setCell_same w g 1 _ 105 (.int .i64 a) h.row, h.bf.to (Below.heap_setCell w _ _ _ (h.bf.ne h.row (by decide)))⟩
def CurIs (w : World) (g k : Nat) (v : Value) (l : List Nat) (c' : Cu) (w' : World) : Prop := Cur w' g k v l c' ∧ w.grownBy w' (some g)
set_option maxHeartbeats 4000000 in
theorem fail_any (h : Cur w g k v l c) (e : Int) : Calls Tryd.prog 55 #[.pointer (some ⟨g, 0, none⟩), .int .i64 e] w fun x w' => x = .returned (.tuple #[]) ∧ CurIs w g k v l (c.fail e) w' := by
  have c2 := h.c2
  have fz := h.fz 2
  by_cases h0 : c.e = 0
  · have hf : c.fail e = { c with e := e } := if_pos h0
    rw [h0] at c2
    rw [hf]
    have S := Lib.hid (h.setE e)
    clear h
    go_enter Tryd.func55, Tryd.ntmps55
    go_wp2_with fail
    refine bodyPost_end (results_none rfl _ _ _) rfl ?_
    exact ⟨rfl, S.out, set_grown⟩
  · have hf : c.fail e = c := if_neg h0
    have hd : (c.e == 0) = false := by simpa using h0
    rw [hf]
    have S := Lib.hid h
    clear h
    go_enter Tryd.func55, Tryd.ntmps55
    go_wp2_with fail
    first | go_end0 | refine bodyPost_end (results_none rfl _ _ _) rfl ?_
    exact ⟨rfl, S.out, grown_of (Below.refl _ _)⟩
set_option maxHeartbeats 4000000 in
set_option maxRecDepth 100000 in
theorem reads_any (h : Cur w g k v l c) (f : FuncId) (F : Int → ByteArray × Int × Int) (hf : c.e = 0 → ∀ W, Below w.heap.size w W → Calls Tryd.prog f #[v, .int .i64 c.at'] W (GetPost (F c.at') W)) (hfn : f = 61 ∨ f = 85) :
    Calls Tryd.prog 81 #[.pointer (some ⟨g, 0, none⟩), .func (.func f) #[] #[]] w fun x w' => x = .returned (.string (rd ⟨#[]⟩ F c).1) ∧ CurIs w g k v l (rd ⟨#[]⟩ F c).2 w' := by
  have c0 := h.c0
  have c1 := h.c1
  have c2 := h.c2
  have f2 := h.fz 2
  have f1 := h.fz 1
  by_cases h0 : c.e = 0
  · obtain ⟨cap, hc, hv⟩ := h.bf.hv
    have hd : (c.e != 0) = false := by simp [h0]
    have H := Lib.hid h
    clear h
    have KO := Lib.hid (fun W (hW : Below w.heap.size w W) => (show W.cell? ⟨g, 0, none⟩ = some v ∧ W.cell? ⟨g, 1, none⟩ = some (.int .i64 c.at') from ⟨(H.out.ext hW).c0, (H.out.ext hW).c1⟩))
    have HF := Lib.hid (hf h0)
    clear hf
    have hrd : rd ⟨#[]⟩ F c = if (F c.at').2.2 ≠ 0 then (⟨#[]⟩, { c with e := (F c.at').2.2 }) else ((F c.at').1, { c with at' := (F c.at').2.1 }) := by unfold rd; rw [if_neg (by simp [h0])]
    rw [hrd]
    clear hrd
    generalize F c.at' = r at *
    obtain ⟨S, A, E⟩ := r
    simp only
    rw [h0] at c2
    replace h0 := Lib.hid h0
    replace hv := Lib.hid hv
    rcases hfn with rfl | rfl
    all_goals
      go_enter Tryd.func81, Tryd.ntmps81
      go_wp2_with fail
      go_region_held3 (fun W => W.cell? ⟨g, 0, none⟩ = some v ∧ W.cell? ⟨g, 1, none⟩ = some (.int .i64 c.at'))
        (first | exact KO.out _ (by first | exact Below.refl _ _ | exact ext_drew _ | assumption))
        (first
          | (go_at_call 61; refine (HF.out _ (by first | exact Below.refl _ _ | exact ext_drew _ | assumption)).mono ?_; rintro e w3 ⟨rfl, b3⟩; have b4 : Below w.heap.size w w3 := ext_trans (by first | exact ext_drew _ | exact Below.refl _ _ ) b3; clear b3)
          | (go_at_call 85; refine (HF.out _ (by first | exact Below.refl _ _ | exact ext_drew _ | assumption)).mono ?_; rintro e w3 ⟨rfl, b3⟩; have b4 : Below w.heap.size w w3 := ext_trans (by first | exact ext_drew _ | exact Below.refl _ _ ) b3; clear b3))
      all_goals
        have H3 := Lib.hid (H.out.ext b4)
        have G4 := Lib.hid (grown_of (m := g) b4)
        have d1 := H3.out.c1
        have d2 := H3.out.c2
        have e1 := H3.out.fz 1
        have e2 := H3.out.fz 2
        clear KO HF b4 c0 c1 c2 f1 f2
        by_cases hE : E = 0
        · subst hE
          have SA := Lib.hid (H3.out.setA A)
          clear H3
          go_wp2_with fail
          go_ret
          exact ⟨rfl, SA.out, grown_trans G4.out set_grown⟩
        · have hE' : (E != 0) = true := by simpa using hE
          have SA := Lib.hid (H3.out.setE E)
          clear H3
          go_wp2_with fail
          all_goals first | exact absurd hE (by assumption) | (go_ret; exact ⟨rfl, SA.out, grown_trans G4.out set_grown⟩)
  · have hd : (c.e != 0) = true := by simpa using h0
    rw [rd_err h0]
    have S := Lib.hid h
    clear h hf
    go_enter Tryd.func81, Tryd.ntmps81
    go_wp2_with fail
    go_ret
    exact ⟨rfl, S.out, grown_of (Below.refl _ _)⟩
def GetInt (r : Int × Int × Int) (w : World) (e : Ending) (w' : World) : Prop :=
  e = .returned (.tuple #[.int .i64 r.1, .int .i64 r.2.1, .int .i64 r.2.2]) ∧ Below w.heap.size w w'
set_option maxHeartbeats 4000000 in
set_option maxRecDepth 100000 in
theorem readi_any (h : Cur w g k v l c) (f : FuncId) (F : Int → Int × Int × Int) (hf : c.e = 0 → ∀ W, Below w.heap.size w W → Calls Tryd.prog f #[v, .int .i64 c.at'] W (GetInt (F c.at') W)) (hfn : f = 84 ∨ f = 83) :
    Calls Tryd.prog 82 #[.pointer (some ⟨g, 0, none⟩), .func (.func f) #[] #[]] w fun x w' => x = .returned (.int .i64 (rd 0 F c).1) ∧ CurIs w g k v l (rd 0 F c).2 w' := by
  have c0 := h.c0
  have c1 := h.c1
  have c2 := h.c2
  have f2 := h.fz 2
  have f1 := h.fz 1
  by_cases h0 : c.e = 0
  · obtain ⟨cap, hc, hv⟩ := h.bf.hv
    have hd : (c.e != 0) = false := by simp [h0]
    have H := Lib.hid h
    clear h
    have KO := Lib.hid (fun W (hW : Below w.heap.size w W) => (show W.cell? ⟨g, 0, none⟩ = some v ∧ W.cell? ⟨g, 1, none⟩ = some (.int .i64 c.at') from ⟨(H.out.ext hW).c0, (H.out.ext hW).c1⟩))
    have HF := Lib.hid (hf h0)
    clear hf
    have hrd : rd 0 F c = if (F c.at').2.2 ≠ 0 then (0, { c with e := (F c.at').2.2 }) else ((F c.at').1, { c with at' := (F c.at').2.1 }) := by unfold rd; rw [if_neg (by simp [h0])]
    rw [hrd]
    clear hrd
    generalize F c.at' = r at *
    obtain ⟨S, A, E⟩ := r
    simp only
    rw [h0] at c2
    replace h0 := Lib.hid h0
    replace hv := Lib.hid hv
    rcases hfn with rfl | rfl
    all_goals
      go_enter Tryd.func82, Tryd.ntmps82
      go_wp2_with fail
      go_region_held3 (fun W => W.cell? ⟨g, 0, none⟩ = some v ∧ W.cell? ⟨g, 1, none⟩ = some (.int .i64 c.at'))
        (first | exact KO.out _ (by first | exact Below.refl _ _ | exact ext_drew _ | assumption))
        (first
          | (go_at_call 84; refine (HF.out _ (by first | exact Below.refl _ _ | exact ext_drew _ | assumption)).mono ?_; rintro e w3 ⟨rfl, b3⟩; have b4 : Below w.heap.size w w3 := ext_trans (by first | exact ext_drew _ | exact Below.refl _ _ ) b3; clear b3)
          | (go_at_call 83; refine (HF.out _ (by first | exact Below.refl _ _ | exact ext_drew _ | assumption)).mono ?_; rintro e w3 ⟨rfl, b3⟩; have b4 : Below w.heap.size w w3 := ext_trans (by first | exact ext_drew _ | exact Below.refl _ _ ) b3; clear b3))
      all_goals
        have H3 := Lib.hid (H.out.ext b4)
        have G4 := Lib.hid (grown_of (m := g) b4)
        have d1 := H3.out.c1
        have d2 := H3.out.c2
        have e1 := H3.out.fz 1
        have e2 := H3.out.fz 2
        clear KO HF b4 c0 c1 c2 f1 f2
        by_cases hE : E = 0
        · subst hE
          have SA := Lib.hid (H3.out.setA A)
          clear H3
          go_wp2_with fail
          go_ret
          exact ⟨rfl, SA.out, grown_trans G4.out set_grown⟩
        · have hE' : (E != 0) = true := by simpa using hE
          have SA := Lib.hid (H3.out.setE E)
          clear H3
          go_wp2_with fail
          all_goals first | exact absurd hE (by assumption) | (go_ret; exact ⟨rfl, SA.out, grown_trans G4.out set_grown⟩)
  · have hd : (c.e != 0) = true := by simpa using h0
    rw [rd_err h0]
    have S := Lib.hid h
    clear h hf
    go_enter Tryd.func82, Tryd.ntmps82
    go_wp2_with fail
    go_ret
    exact ⟨rfl, S.out, grown_of (Below.refl _ _)⟩

variable (h256 : ∀ x ∈ l, x < 256) (hl : l.length ≤ 140737488355328) (hb : 0 ≤ c.at' ∧ c.at' ≤ 140737488355328)
include h256 hl hb
set_option maxHeartbeats 4000000 in
theorem text_any (h : Cur w g k v l c) : Calls Tryd.prog 54 #[.pointer (some ⟨g, 0, none⟩)] w fun x w' => x = .returned (.string (rd ⟨#[]⟩ (getV l) c).1) ∧ CurIs w g k v l (rd ⟨#[]⟩ (getV l) c).2 w' := by
  have R := Lib.hid (reads_any h 61 (getV l) (fun _ W hW => get_any v l c.at' W (h.ext hW).bf.at h256 hl (by omega)) (.inl rfl))
  clear h
  go_enter Tryd.func54, Tryd.ntmps54
  go_wp2_with fail
  refine R.out.mono ?_
  rintro e w1 ⟨rfl, h1⟩
  replace h1 := Lib.hid h1
  go_wp2_with fail
  go_ret
  exact ⟨rfl, h1.out⟩
set_option maxHeartbeats 4000000 in
theorem raw_any (h : Cur w g k v l c) : Calls Tryd.prog 59 #[.pointer (some ⟨g, 0, none⟩)] w fun x w' => x = .returned (.string (rd ⟨#[]⟩ (rawV l) c).1) ∧ CurIs w g k v l (rd ⟨#[]⟩ (rawV l) c).2 w' := by
  have R := Lib.hid (reads_any h 85 (rawV l) (fun _ W hW => (getraw_any v l c.at' W (h.ext hW).bf.at h256 hl (by omega)).mono (fun e w' he => ⟨he.1, by obtain ⟨n, rfl⟩ := he.2; exact below_drewN (Below.refl _ _) n⟩)) (.inr rfl))
  clear h
  go_enter Tryd.func59, Tryd.ntmps59
  go_wp2_with fail
  refine R.out.mono ?_
  rintro e w1 ⟨rfl, h1⟩
  replace h1 := Lib.hid h1
  go_wp2_with fail
  go_ret
  exact ⟨rfl, h1.out⟩
set_option maxHeartbeats 4000000 in
theorem two_any (h : Cur w g k v l c) : Calls Tryd.prog 58 #[.pointer (some ⟨g, 0, none⟩)] w fun x w' => x = .returned (.int .i64 (rd 0 (get2V l) c).1) ∧ CurIs w g k v l (rd 0 (get2V l) c).2 w' := by
  have R := Lib.hid (readi_any h 84 (get2V l) (fun _ W hW => (get2_any v l c.at' W (h.ext hW).bf.at h256 hl (by omega)).mono (fun e w' he => ⟨he.1, by obtain ⟨n, rfl⟩ := he.2; exact below_drewN (Below.refl _ _) n⟩)) (.inl rfl))
  clear h
  go_enter Tryd.func58, Tryd.ntmps58
  go_wp2_with fail
  refine R.out.mono ?_
  rintro e w1 ⟨rfl, h1⟩
  replace h1 := Lib.hid h1
  go_wp2_with fail
  go_ret
  exact ⟨rfl, h1.out⟩
set_option maxHeartbeats 4000000 in
theorem one_clo (hv : BytesAt w v l) (a : Int) (h0 : 0 ≤ a) (h1 : a ≤ l.length) : Calls Tryd.prog 83 #[v, .int .i64 a] w (GetInt (oneV l a) w) := by
  have hb0 := hb
  clear hb0
  obtain ⟨ad, cap, rfl, hcap, hc⟩ := hv
  unfold oneV
  by_cases he : a = l.length
  · rw [if_pos he]
    subst he
    clear hc h256 hb
    go_enter Tryd.func83, Tryd.ntmps83
    go_wp2_with fail
    go_ret3
    exact ⟨rfl, Below.refl _ _⟩
  · rw [if_neg he]
    obtain ⟨j, rfl⟩ := Int.eq_ofNat_of_zero_le h0
    have hj : j < l.length := by omega
    have hj' : (j : Int) < l.length := by omega
    have hd : ((j : Int) == (l.length : Int)) = false := by simpa using he
    have h8 : l.getD j 0 < 256 := by rw [List.getD_eq_getElem?_getD, List.getElem?_eq_getElem hj]; exact h256 _ (List.getElem_mem _)
    rcases hc with rfl | ⟨b, o, rfl, hlt, hcell⟩
    · simp at hj
    · have c1 := hcell j hj
      simp only [Int.toNat_natCast]
      generalize l.getD j 0 = y at *
      clear hcell h256 hb
      go_enter Tryd.func83, Tryd.ntmps83
      go_wp2_with fail
      go_ret3
      exact ⟨rfl, Below.refl _ _⟩
set_option maxHeartbeats 4000000 in
theorem one_any (ha : c.e = 0 → c.at' ≤ l.length) (h : Cur w g k v l c) : Calls Tryd.prog 56 #[.pointer (some ⟨g, 0, none⟩)] w fun x w' => x = .returned (.int .i64 (rd 0 (oneV l) c).1) ∧ CurIs w g k v l (rd 0 (oneV l) c).2 w' := by
  have R : Hid (Calls Tryd.prog 82 #[.pointer (some ⟨g, 0, none⟩), .func (.func 83) #[] #[]] w fun x w' => x = .returned (.int .i64 (rd 0 (oneV l) c).1) ∧ CurIs w g k v l (rd 0 (oneV l) c).2 w') := Lib.hid (readi_any h 83 (oneV l) (fun h0 W hW => one_clo h256 hl hb (h.ext hW).bf.at c.at' hb.1 (ha h0)) (.inr rfl))
  clear h
  go_enter Tryd.func56, Tryd.ntmps56
  go_wp2_with fail
  refine R.out.mono ?_
  rintro e w1 ⟨rfl, h1⟩
  replace h1 := Lib.hid h1
  go_wp2_with fail
  go_ret
  exact ⟨rfl, h1.out⟩
end Go.Proofs.YtmpklaokgogigaaDoor.Con

/-
  LAYER 13: the program's Of.
-/
namespace Go.Proofs.YtmpklaokgogigaaDoor.Con
set_option linter.unusedVariables false
set_option linter.unusedSimpArgs false
open Go.Proofs.YtmpklaokgogigaaDoor
open Go.RowKit
def flE (f : Nat) : Int := if badF f then 10 else 0
theorem ands : ∀ f : Fin 256, bits .and .i64 ((f.val : Nat) : Int) 1 = ((f.val % 2 : Nat) : Int) ∧ bits .and .i64 ((f.val : Nat) : Int) 2 = ((2 * (f.val / 2 % 2) : Nat) : Int) ∧ bits .and .i64 ((f.val : Nat) : Int) 4 = ((4 * (f.val / 4 % 2) : Nat) : Int) ∧ bits .and .i64 ((f.val : Nat) : Int) 32 = ((32 * (f.val / 32 % 2) : Nat) : Int)
    ∧ bits .and .i64 ((f.val : Nat) : Int) 64 = ((64 * (f.val / 64 % 2) : Nat) : Int) ∧ bits .and .i64 ((f.val : Nat) : Int) 128 = ((128 * (f.val / 128 % 2) : Nat) : Int) ∧ bits .and .i64 (((f.val : Nat) : Int) / 8) 3 = ((f.val / 8 % 4 : Nat) : Int) := by decide +kernel
theorem and_at {f : Nat} (hf : f < 256) : bits .and .i64 (f : Int) 1 = ((f % 2 : Nat) : Int) ∧ bits .and .i64 (f : Int) 2 = ((2 * (f / 2 % 2) : Nat) : Int) ∧ bits .and .i64 (f : Int) 4 = ((4 * (f / 4 % 2) : Nat) : Int) ∧ bits .and .i64 (f : Int) 32 = ((32 * (f / 32 % 2) : Nat) : Int) ∧ bits .and .i64 (f : Int) 64 = ((64 * (f / 64 % 2) : Nat) : Int) ∧ bits .and .i64 (f : Int) 128 = ((128 * (f / 128 % 2) : Nat) : Int) ∧ bits .and .i64 ((f : Int) / 8) 3 = ((f / 8 % 4 : Nat) : Int) := ands ⟨f, hf⟩
set_option maxHeartbeats 4000000 in
theorem flags_any (f : Nat) (w : World) (hf : f < 256) : Calls Tryd.prog 57 #[.int .i64 (f : Int)] w fun e w' => e = .returned (.int .i64 (flE f)) ∧ w = w' := by
  obtain ⟨a1, a2, a4, a32, a64, a128, a3⟩ := and_at hf
  go_enter Tryd.func57, Tryd.ntmps57
  go_wp2_with fail
  all_goals
    clear a1 a2 a4 a32 a64 a128 a3
    try simp only [bne_iff_ne, beq_iff_eq, ne_eq, not_and, Bool.not_eq_true, beq_eq_false_iff_ne, Decidable.not_not, bne_eq_false_iff_eq] at *
    go_ret
    first
      | (have e0 : flE f = 10 := by (simp [flE, badF]; omega)
         rw [e0]; exact ⟨rfl, rfl⟩)
      | (have e0 : flE f = 0 := by (simp [flE, badF]; omega)
         rw [e0]; exact ⟨rfl, rfl⟩)
theorem set_row_grown (w : World) (g : Nat) (cs : Array Value) : w.grownBy (w.setRow g cs) (some g) :=
  ⟨rfl, rfl, rfl, by simp, fun i hi hne => setRow_other w g i cs (fun e => hne (by rw [e]))⟩
theorem con_one : con0.v.all (·.oneCell') = true := by kernel_rfl
theorem con_size : (Tryd.prog.info? 29).map (·.size) = some con0.v.size := by kernel_rfl
/-- Nothing but these two. -/
structure Two (a b : Nat) (w w' : World) : Prop where
  os : w'.os = w.os
  tape : w'.tape = w.tape
  output : w'.output = w.output
  size : w.heap.size ≤ w'.heap.size
  block : ∀ i, i < w.heap.size → i ≠ a → i ≠ b → w'.heap[i]? = w.heap[i]?
theorem Two.of_a {a b : Nat} {w w' : World} (h : w.grownBy w' (some a)) : Two a b w w' := ⟨h.os, h.tape, h.output, h.size, fun i hi h1 _ => h.block i hi (fun e => h1 (by simpa using e))⟩
theorem Two.of_b {a b : Nat} {w w' : World} (h : w.grownBy w' (some b)) : Two a b w w' := ⟨h.os, h.tape, h.output, h.size, fun i hi _ h2 => h.block i hi (fun e => h2 (by simpa using e))⟩
theorem Two.trans {a b : Nat} {w w' w2 : World} (h : Two a b w w') (k : Two a b w' w2) : Two a b w w2 :=
  ⟨k.os.trans h.os, k.tape.trans h.tape, k.output.trans h.output, Nat.le_trans h.size k.size, fun i hi h1 h2 => (k.block i (Nat.lt_of_lt_of_le hi h.size) h1 h2).trans (h.block i hi h1 h2)⟩
theorem Two.below {a b B : Nat} {w0 w w' : World} (h : Two a b w w') (hb : Below B w0 w) (hB : B ≤ w.heap.size) (ha : B ≤ a) (hb' : B ≤ b) : Below B w0 w' :=
  hb.trans ⟨h.os, h.tape, h.output, h.size, fun i hi => h.block i (by omega) (by omega) (by omega)⟩
variable {w w' : World} {k g bx be bf cv : Nat} {v : Value} {l : List Nat} {c : Cu} {X : Con} {f : Nat} {e0 : Int}
def Door (w : World) (bx be : Nat) (X : Con) (c : Cu) (f : Nat) (w' : World) : Prop :=
  Blk w' bx 29 (fin X c f).1.v ∧ Blk w' be 34 #[.int .i64 (fin X c f).2] ∧ Two bx be w w'
set_option maxHeartbeats 4000000 in
set_option maxRecDepth 100000 in
theorem door_any (hcv : Blk w cv 103 #[.pointer (some ⟨g, 0, none⟩)]) (hc : Cur w g k v l c) (hx : Blk w bx 29 X.v) (hf : Blk w bf 3 #[.int .i64 (f : Int)]) (he : Blk w be 34 #[.int .i64 e0]) (h8 : f < 256) (u : FrameMode) :
    CallsD Tryd.prog 53 #[.pointer (some ⟨cv, 0, none⟩), .pointer (some ⟨bx, 0, none⟩), .pointer (some ⟨bf, 0, none⟩), .pointer (some ⟨be, 0, none⟩)] u w fun e u' w' => u' = u ∧ (e = .returned (.tuple #[]) ∧ Door w bx be X c f w') := by
  have ne1 : bx ≠ be := fun e => by subst e; unfold Blk at hx he; rw [hx] at he; simp at he
  have ne2 : g ≠ bx := fun e => by subst e; have := hc.row; unfold Blk at hx; rw [hx] at this; simp at this
  have c0 : w.cell? ⟨cv, 0, none⟩ = some (.pointer (some ⟨g, 0, none⟩)) := (hcv.cell 0).trans rfl
  have g2 := hc.c2
  have fe := he.fz 0
  have e1 : w.cell? ⟨be, 0, none⟩ = some (.int .i64 e0) := (he.cell 0).trans rfl
  by_cases h0 : c.e = 0
  · have hd : (c.e != 0) = false := by simp [h0]
    have hfin : fin X c f = (wq X f, 0) := if_neg (fun x => x h0)
    unfold Door
    rw [hfin]
    obtain ⟨-, -, -, a32, -, -, a3⟩ := and_at h8
    have f1 : w.cell? ⟨bf, 0, none⟩ = some (.int .i64 (f : Int)) := (hf.cell 0).trans rfl
    have x4 : w.cell? ⟨bx, 4, none⟩ = some (.bool X.hasW) := (hx.cell 4).trans rfl
    rw [h0] at g2
    cases hw : X.hasW
    · have hq : wq X f = X := by unfold wq; rw [hw]; rfl
      rw [hq]
      rw [hw] at x4
      have S := Lib.hid (he.set 0 (.int .i64 0))
      have SX := Lib.hid (hx.far (p := ⟨be, 0, none⟩) ne1 (.int .i64 0))
      clear hcv hc hx hf he hq hfin
      go_enter_d Tryd.func53, Tryd.ntmps53
      go_wp2_with fail
      first | go_end0 | refine bodyPost_end (results_none rfl _ _ _) rfl ?_
      exact ⟨rfl, SX.out, S.out, .of_b set_grown⟩
    · obtain ⟨q, hq⟩ : ∃ q : Int, q = ((f / 8 % 4 : Nat) : Int) := ⟨_, rfl⟩
      obtain ⟨r, hr⟩ : ∃ r : Bool, r = (f / 32 % 2 == 1) := ⟨_, rfl⟩
      have a32r : (bits .and .i64 (f : Int) 32 != 0) = r := by
        rw [hr, a32]
        rcases (show f / 32 % 2 = 0 ∨ f / 32 % 2 = 1 by omega) with e | e <;> rw [e] <;> rfl
      rw [← hq] at a3
      have hw2 : (wq X f).v = (X.v.setIfInBounds 7 (.int .i64 q)).setIfInBounds 8 (.bool r) := by
        unfold wq
        rw [if_pos hw, ← hq, ← hr]
        rfl
      rw [hw2]
      rw [hw] at x4
      have x7 : w.cell? ⟨bx, 7, none⟩ = some (.int .i64 X.qos) := (hx.cell 7).trans rfl
      have z7 := hx.fz 7
      have hx2 := hx.set 7 (.int .i64 q)
      have x8 : (w.setCell ⟨bx, 7, none⟩ (.int .i64 q)).cell? ⟨bx, 8, none⟩ = some (.bool X.ret) := (hx2.cell 8).trans rfl
      have z8 := hx2.fz 8
      have hx3 := hx2.set 8 (.bool r)
      have S := Lib.hid (((he.far (p := ⟨bx, 7, none⟩) ne1.symm (.int .i64 q)).far (p := ⟨bx, 8, none⟩) ne1.symm (.bool r)).set 0 (.int .i64 0))
      have SX := Lib.hid (hx3.far (p := ⟨be, 0, none⟩) ne1 (.int .i64 0))
      clear hcv hc hx hf he hfin hx2 hx3 hw2 a32 hq hr
      go_enter_d Tryd.func53, Tryd.ntmps53
      go_wp2_with fail
      first | go_end0 | refine bodyPost_end (results_none rfl _ _ _) rfl ?_
      exact ⟨rfl, SX.out, S.out, ((Two.of_a set_grown).trans (.of_a set_grown)).trans (.of_b set_grown)⟩
  · have hd : (c.e != 0) = true := by simpa using h0
    have hfin : fin X c f = (con0, c.e) := if_pos h0
    unfold Door
    rw [hfin]
    have hg := set_row_grown w bx con0.v
    have ncv : some cv ≠ some bx := fun e => by
      obtain rfl : cv = bx := by simpa using e
      unfold Blk at hcv hx
      rw [hcv] at hx
      simp at hx
    have c0r : (w.setRow bx con0.v).cell? ⟨cv, 0, none⟩ = some (.pointer (some ⟨g, 0, none⟩)) := ((hcv.grown hg ncv).cell 0).trans rfl
    have g2r : (w.setRow bx con0.v).cell? ⟨g, 2, none⟩ = some (.int .i64 c.e) := (cell_setRow_other w bx con0.v ⟨g, 2, none⟩ ne2).trans g2
    have he2 := he.grown hg (fun e => ne1.symm (by simpa using e))
    have e1r : (w.setRow bx con0.v).cell? ⟨be, 0, none⟩ = some (.int .i64 e0) := (he2.cell 0).trans rfl
    have fer := he2.fz 0
    have HX := Lib.hid (show w.heap[bx]? = some (.cells X.v 29 (0, 0)) from hx)
    have S := Lib.hid (he2.set 0 (.int .i64 c.e))
    have SX : Hid (Blk ((w.setRow bx con0.v).setCell ⟨be, 0, none⟩ (.int .i64 c.e)) bx 29 con0.v) := Lib.hid (Blk.far (show (w.setRow bx con0.v).heap[bx]? = some (.cells con0.v 29 (0, 0)) from setRow_heap w bx X.v con0.v 29 (0, 0) hx) (p := ⟨be, 0, none⟩) ne1 _)
    have TW := Lib.hid ((Two.of_a (b := be) hg).trans (.of_b (set_grown (j := 0) (u := .int .i64 c.e))))
    clear hcv hc hx hf he hg ncv he2 hfin
    go_enter_d Tryd.func53, Tryd.ntmps53
    go_wp2_with (refine wpList_store_row rfl 29 (.tmp 1) (.tmp 9) rfl bx con0.v rfl rfl 29 X.v HX.out con_size rfl con_one ?_)
    first | go_end0 | refine bodyPost_end (results_none rfl _ _ _) rfl ?_
    exact ⟨rfl, SX.out, S.out, TW.out⟩
end Go.Proofs.YtmpklaokgogigaaDoor.Con

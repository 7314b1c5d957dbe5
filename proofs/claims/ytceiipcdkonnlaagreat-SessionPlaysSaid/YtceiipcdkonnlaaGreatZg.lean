/-
  LAYER 25: do says true.
-/
import Derived.Test.YtceiipcdkonnlaaGreatZd
import Derived.Test.YtceiipcdkonnlaaGreatZf
namespace Go.Proofs.YtceiipcdkonnlaaGreat.Ses
open Go.RowKit Que Hp Ids Fli
set_option linter.unusedSimpArgs false
set_option linter.unusedVariables false
/-- What an act leaves. -/
def DoPost (w0 : World) (a : Ad) (d : Ax) (cl : ByteArray) (cn : Bool) (lost : Int) (e : Ending) (w' : World) : Prop :=
  e = .returned (.bool true) ∧ ∃ vi vq vf T p cs n li, SB w' w0 w' a d (fun _ => False) vi vq vf cl cn T p p cs n li ∧ cs.take n = li ∧ Inb.Sorted li ∧ Inv p.L ∧ 0 ≤ p.lost ∧ p.lost ≤ lost + 1
def ActAt (V : World) (b : Nat) (K N I : Int) (t y : ByteArray) (q : Int) (r : Bool) : Prop := V.heap[b]? = some (.cells #[.int .i64 K, .int .i64 N, .int .i64 I, .string t, .string y, .int .i64 q, .bool r] 35 (0, 0))
section
variable {V V' : World} {b : Nat} {K N I : Int} {t y : ByteArray} {q : Int} {r : Bool}
theorem ActAt.cs (h : ActAt V b K N I t y q r) : V.cell? ⟨b, 0, none⟩ = some (.int .i64 K) ∧ V.cell? ⟨b, 1, none⟩ = some (.int .i64 N) ∧ V.cell? ⟨b, 2, none⟩ = some (.int .i64 I) ∧ V.cell? ⟨b, 3, none⟩ = some (.string t) ∧ V.cell? ⟨b, 4, none⟩ = some (.string y) ∧ V.cell? ⟨b, 5, none⟩ = some (.int .i64 q) ∧ V.cell? ⟨b, 6, none⟩ = some (.bool r) :=
  ⟨cell_of_row _ _ 0 _ 35 (0, 0) h, cell_of_row _ _ 1 _ 35 (0, 0) h, cell_of_row _ _ 2 _ 35 (0, 0) h, cell_of_row _ _ 3 _ 35 (0, 0) h, cell_of_row _ _ 4 _ 35 (0, 0) h, cell_of_row _ _ 5 _ 35 (0, 0) h, cell_of_row _ _ 6 _ 35 (0, 0) h⟩
theorem ActAt.two (h : ActAt V b K N I t y q r) : V.cell? ⟨b, 1, none⟩ = some (.int .i64 N) ∧ V.cell? ⟨b, 2, none⟩ = some (.int .i64 I) := ⟨h.cs.2.1, h.cs.2.2.1⟩
theorem ActAt.drew (h : ActAt V b K N I t y q r) : ActAt V.drew b K N I t y q r := h
theorem ActAt.to (h : ActAt V b K N I t y q r) (e : V'.heap[b]? = V.heap[b]?) : ActAt V' b K N I t y q r := e.trans h
end
theorem do_end {R w0 w : World} {a : Ad} {d : Ax} {E : Nat → Prop} {vi vq vf : Value} {cl : ByteArray} {cn : Bool} {T : List Bool} {p : PS} {cs : List Int} {n : Nat} {li : List Int} {lost : Int} (h : SB R w0 w a d E vi vq vf cl cn T p p cs n li) (hk : cs.take n = li) (so : Inb.Sorted li) (hI : Inv p.L) (h0 : 0 ≤ p.lost) (h1 : p.lost ≤ lost + 1) : DoPost w0 a d cl cn lost (.returned (.bool true)) w :=
  ⟨rfl, vi, vq, vf, T, p, cs, n, li, h.fin, hk, so, hI, h0, h1⟩
section
variable {R w0 W : World} {a : Ad} {d : Ax} {vi vq vf : Value} {cl : ByteArray} {cn on : Bool} {T : List Bool} {L : List Se} {l : List Mg} {lost : Int} {cs : List Int} {n : Nat} {li : List Int}
set_option maxHeartbeats 16000000 in
set_option maxRecDepth 100000 in
theorem do_0 (h : SB R w0 W a d (fun _ => False) vi vq vf cl cn T ⟨on, L, l, lost⟩ ⟨on, L, l, lost⟩ cs n li) (hk : cs.take n = li) (so : Inb.Sorted li) (hI : Inv L) (hl0 : 0 ≤ lost) (hl1 : lost ≤ 1000000) (N I : Int) (t y : ByteArray) (q : Int) (r : Bool) :
    Calls Tryz.prog 7 #[.pointer (some ⟨a.s, 0, none⟩), .pointer (some ⟨d.x, 0, none⟩), .agg #[.int .i64 0, .int .i64 N, .int .i64 I, .string t, .string y, .int .i64 q, .bool r]] W (DoPost w0 a d cl cn lost) := by
  have hrow : ActAt (W.alloc (.cells #[.int .i64 0, .int .i64 N, .int .i64 I, .string t, .string y, .int .i64 q, .bool r] 35)) W.heap.size 0 N I t y q r := heap_alloc_new W _
  have h1 := h.more (F := fun k => k = W.heap.size) (ext_alloc W (.cells #[.int .i64 0, .int .i64 N, .int .i64 I, .string t, .string y, .int .i64 q, .bool r] 35)) (by rintro k rfl; exact ⟨Nat.le_refl _, by simp⟩)
  obtain ⟨b0, b1, b2, b3, b4, b5, b6⟩ := hrow.cs
  obtain ⟨ls, p', hls, hI', q0, q1, PA, PX⟩ := two_attach h1 hI hl0
  replace PA := Lib.hid PA
  replace PX := Lib.hid PX
  replace hI' := Lib.hid hI'
  replace h := Lib.hid h
  replace h1 := Lib.hid h1
  replace hrow := Lib.hid hrow
  replace so := Lib.hid so
  replace hk := Lib.hid hk
  replace hI := Lib.hid hI
  go_enter Tryz.func7, Tryz.ntmps7
  go_wp2_with fail
  refine (PA.out _ _ h1.out).mono ?_
  rintro e w2 ⟨v2, T2, rfl, i2, k2, o2⟩
  have XX := Lib.hid (PX.out _ _ _ _ i2)
  replace o2 := Lib.hid o2
  clear i2 k2 PA PX b0 b1 b2 b3 b4 b5 b6
  go_wp2_with fail
  refine XX.out.mono ?_
  rintro e w3 ⟨v3, vq', vf', rfl, i3, k3, o3⟩
  have PK := Lib.hid (packets_any ls (own_ro o2.out (fun k hk => k3 k (.inr hk))) o3 rfl (by omega))
  replace i3 := Lib.hid i3
  clear k3 o3 o2 XX
  go_wp2_with fail
  refine PK.out.mono ?_
  rintro e w4 ⟨rfl, b4⟩
  have i4 := Lib.hid (i3.out.ext b4)
  clear b4 PK i3
  go_wp2_with fail
  go_ret
  exact do_end i4.out hk.out so.out hI'.out q0 q1
set_option maxHeartbeats 16000000 in
set_option maxRecDepth 100000 in
theorem do_1 (h : SB R w0 W a d (fun _ => False) vi vq vf cl cn T ⟨on, L, l, lost⟩ ⟨on, L, l, lost⟩ cs n li) (hk : cs.take n = li) (so : Inb.Sorted li) (hI : Inv L) (hl0 : 0 ≤ lost) (hl1 : lost ≤ 1000000) (N I : Int) (t y : ByteArray) (q : Int) (r : Bool) :
    Calls Tryz.prog 7 #[.pointer (some ⟨a.s, 0, none⟩), .pointer (some ⟨d.x, 0, none⟩), .agg #[.int .i64 1, .int .i64 N, .int .i64 I, .string t, .string y, .int .i64 q, .bool r]] W (DoPost w0 a d cl cn lost) := by
  have hrow : ActAt (W.alloc (.cells #[.int .i64 1, .int .i64 N, .int .i64 I, .string t, .string y, .int .i64 q, .bool r] 35)) W.heap.size 1 N I t y q r := heap_alloc_new W _
  have h1 := h.more (F := fun k => k = W.heap.size) (ext_alloc W (.cells #[.int .i64 1, .int .i64 N, .int .i64 I, .string t, .string y, .int .i64 q, .bool r] 35)) (by rintro k rfl; exact ⟨Nat.le_refl _, by simp⟩)
  obtain ⟨b0, b1, b2, b3, b4, b5, b6⟩ := hrow.cs
  obtain ⟨s2, k2⟩ := h1.mx.line false
  obtain ⟨i2, -⟩ := h1.doc (F := fun _ => False) (s2.weaken (fun k hk => hk.elim id (fun e => e.elim))) k2 (fun k e => e.elim)
  have x2 := h1.xs.x2
  have fz : (W.alloc (.cells #[.int .i64 1, .int .i64 N, .int .i64 I, .string t, .string y, .int .i64 q, .bool r] 35)).frozen? ⟨d.x, 2, none⟩ = false := frozen_of_row _ _ 2 _ 63 h1.xs.row
  have D := Lib.hid (s_detach i2.ps)
  replace i2 := Lib.hid i2
  replace h := Lib.hid h
  replace h1 := Lib.hid h1
  replace hrow := Lib.hid hrow
  replace so := Lib.hid so
  replace hk := Lib.hid hk
  replace hI := Lib.hid hI
  clear s2 k2
  cases on with
  | true =>
    go_enter Tryz.func7, Tryz.ntmps7
    go_wp2_with fail
    refine D.out.mono ?_
    rintro e w3 ⟨rfl, s3, k3⟩
    obtain ⟨i3, -⟩ := i2.out.prog (F := fun _ => False) (s3.weaken (fun k hk => hk.elim id (fun e => e.elim))) k3 (fun k e => e.elim)
    replace i3 := Lib.hid i3
    clear s3 k3 D
    go_wp2_with fail
    go_ret
    exact do_end i3.out hk.out so.out hI.out hl0 (by show lost ≤ lost + 1; omega)
  | false =>
    go_enter Tryz.func7, Tryz.ntmps7
    go_wp2_with fail
    refine D.out.mono ?_
    rintro e w3 ⟨rfl, s3, k3⟩
    obtain ⟨i3, -⟩ := i2.out.prog (F := fun _ => False) (s3.weaken (fun k hk => hk.elim id (fun e => e.elim))) k3 (fun k e => e.elim)
    replace i3 := Lib.hid i3
    clear s3 k3 D
    go_wp2_with fail
    go_ret
    exact do_end i3.out hk.out so.out hI.out hl0 (by show lost ≤ lost + 1; omega)
set_option maxHeartbeats 16000000 in
set_option maxRecDepth 100000 in
theorem do_2 (h : SB R w0 W a d (fun _ => False) vi vq vf cl cn T ⟨on, L, l, lost⟩ ⟨on, L, l, lost⟩ cs n li) (hk : cs.take n = li) (so : Inb.Sorted li) (hI : Inv L) (hl0 : 0 ≤ lost) (hl1 : lost ≤ 1000000) (N I : Int) (t y : ByteArray) (q : Int) (r : Bool) :
    Calls Tryz.prog 7 #[.pointer (some ⟨a.s, 0, none⟩), .pointer (some ⟨d.x, 0, none⟩), .agg #[.int .i64 2, .int .i64 N, .int .i64 I, .string t, .string y, .int .i64 q, .bool r]] W (DoPost w0 a d cl cn lost) := by
  have hrow : ActAt (W.alloc (.cells #[.int .i64 2, .int .i64 N, .int .i64 I, .string t, .string y, .int .i64 q, .bool r] 35)) W.heap.size 2 N I t y q r := heap_alloc_new W _
  have h1 := h.more (F := fun k => k = W.heap.size) (ext_alloc W (.cells #[.int .i64 2, .int .i64 N, .int .i64 I, .string t, .string y, .int .i64 q, .bool r] 35)) (by rintro k rfl; exact ⟨Nat.le_refl _, by simp⟩)
  obtain ⟨b0, b1, b2, b3, b4, b5, b6⟩ := hrow.cs
  obtain ⟨kept, ls, p', hls, hI', q0, q1, PA, PX⟩ := two_deliver h1 hI hl0 hl1 t y q N r
  replace PA := Lib.hid PA
  replace PX := Lib.hid PX
  replace hI' := Lib.hid hI'
  replace h := Lib.hid h
  replace h1 := Lib.hid h1
  replace hrow := Lib.hid hrow
  replace so := Lib.hid so
  replace hk := Lib.hid hk
  replace hI := Lib.hid hI
  go_enter Tryz.func7, Tryz.ntmps7
  go_wp2_with fail
  refine (PA.out _ _ h1.out).mono ?_
  rintro e w2 ⟨v2, T2, rfl, i2, k2, o2⟩
  obtain ⟨c0, c1, c2, c3, c4, c5, c6⟩ := (hrow.out.to (k2 _ (.inr rfl))).cs
  have XX := Lib.hid (PX.out _ _ _ _ i2)
  replace o2 := Lib.hid o2
  clear i2 k2 PA PX b0 b1 b2 b3 b4 b5 b6
  go_wp2_with fail
  refine XX.out.mono ?_
  rintro e w3 ⟨v3, vq', vf', rfl, i3, k3, o3⟩
  have PK := Lib.hid (packets_any ls (own_ro o2.out (fun k hk => k3 k (.inr hk))) o3 rfl (by omega))
  replace i3 := Lib.hid i3
  clear k3 o3 o2 XX c0 c1 c2 c3 c4 c5 c6
  go_wp2_with fail
  refine PK.out.mono ?_
  rintro e w4 ⟨rfl, b4⟩
  have i4 := Lib.hid (i3.out.ext b4)
  clear b4 PK i3
  go_wp2_with fail
  go_ret
  exact do_end i4.out hk.out so.out hI'.out q0 q1
set_option maxHeartbeats 16000000 in
set_option maxRecDepth 100000 in
theorem do_3 (h : SB R w0 W a d (fun _ => False) vi vq vf cl cn T ⟨on, L, l, lost⟩ ⟨on, L, l, lost⟩ cs n li) (hk : cs.take n = li) (so : Inb.Sorted li) (hI : Inv L) (hl0 : 0 ≤ lost) (hl1 : lost ≤ 1000000) (N I : Int) (t y : ByteArray) (q : Int) (r : Bool) :
    Calls Tryz.prog 7 #[.pointer (some ⟨a.s, 0, none⟩), .pointer (some ⟨d.x, 0, none⟩), .agg #[.int .i64 3, .int .i64 N, .int .i64 I, .string t, .string y, .int .i64 q, .bool r]] W (DoPost w0 a d cl cn lost) := by
  have hrow : ActAt (W.alloc (.cells #[.int .i64 3, .int .i64 N, .int .i64 I, .string t, .string y, .int .i64 q, .bool r] 35)) W.heap.size 3 N I t y q r := heap_alloc_new W _
  have h1 := h.more (F := fun k => k = W.heap.size) (ext_alloc W (.cells #[.int .i64 3, .int .i64 N, .int .i64 I, .string t, .string y, .int .i64 q, .bool r] 35)) (by rintro k rfl; exact ⟨Nat.le_refl _, by simp⟩)
  obtain ⟨b0, b1, b2, b3, b4, b5, b6⟩ := hrow.cs
  obtain ⟨kept, ls, p', hls, hI', q0, q1, PA, PX⟩ := two_deliver h1 hI hl0 hl1 t y q N r
  replace PA := Lib.hid PA
  replace PX := Lib.hid PX
  replace hI' := Lib.hid hI'
  replace h := Lib.hid h
  replace h1 := Lib.hid h1
  replace hrow := Lib.hid hrow
  replace so := Lib.hid so
  replace hk := Lib.hid hk
  replace hI := Lib.hid hI
  go_enter Tryz.func7, Tryz.ntmps7
  go_wp2_with fail
  refine (PA.out _ _ h1.out).mono ?_
  rintro e w2 ⟨v2, T2, rfl, i2, k2, o2⟩
  obtain ⟨c0, c1, c2, c3, c4, c5, c6⟩ := (hrow.out.to (k2 _ (.inr rfl))).cs
  have XX := Lib.hid (PX.out _ _ _ _ i2)
  replace o2 := Lib.hid o2
  clear i2 k2 PA PX b0 b1 b2 b3 b4 b5 b6
  go_wp2_with fail
  refine XX.out.mono ?_
  rintro e w3 ⟨v3, vq', vf', rfl, i3, k3, o3⟩
  have PK := Lib.hid (packets_any ls (own_ro o2.out (fun k hk => k3 k (.inr hk))) o3 rfl (by omega))
  replace i3 := Lib.hid i3
  clear k3 o3 o2 XX c0 c1 c2 c3 c4 c5 c6
  go_wp2_with fail
  refine PK.out.mono ?_
  rintro e w4 ⟨rfl, b4⟩
  have i4 := Lib.hid (i3.out.ext b4)
  clear b4 PK i3
  go_wp2_with fail
  go_ret
  exact do_end i4.out hk.out so.out hI'.out q0 q1
set_option maxHeartbeats 16000000 in
set_option maxRecDepth 100000 in
theorem do_4 (h : SB R w0 W a d (fun _ => False) vi vq vf cl cn T ⟨on, L, l, lost⟩ ⟨on, L, l, lost⟩ cs n li) (hk : cs.take n = li) (so : Inb.Sorted li) (hI : Inv L) (hl0 : 0 ≤ lost) (hl1 : lost ≤ 1000000) (N I : Int) (t y : ByteArray) (q : Int) (r : Bool) :
    Calls Tryz.prog 7 #[.pointer (some ⟨a.s, 0, none⟩), .pointer (some ⟨d.x, 0, none⟩), .agg #[.int .i64 4, .int .i64 N, .int .i64 I, .string t, .string y, .int .i64 q, .bool r]] W (DoPost w0 a d cl cn lost) := by
  have hrow : ActAt (W.alloc (.cells #[.int .i64 4, .int .i64 N, .int .i64 I, .string t, .string y, .int .i64 q, .bool r] 35)) W.heap.size 4 N I t y q r := heap_alloc_new W _
  have h1 := h.more (F := fun k => k = W.heap.size) (ext_alloc W (.cells #[.int .i64 4, .int .i64 N, .int .i64 I, .string t, .string y, .int .i64 q, .bool r] 35)) (by rintro k rfl; exact ⟨Nat.le_refl _, by simp⟩)
  obtain ⟨b0, b1, b2, b3, b4, b5, b6⟩ := hrow.cs
  obtain ⟨ls, p', hls, hI', q0, q1, PA, PX⟩ := two_answer h1 hI hl0 N I
  replace PA := Lib.hid PA
  replace PX := Lib.hid PX
  replace hI' := Lib.hid hI'
  replace h := Lib.hid h
  replace h1 := Lib.hid h1
  replace hrow := Lib.hid hrow
  replace so := Lib.hid so
  replace hk := Lib.hid hk
  replace hI := Lib.hid hI
  clear b1 b2 b3 b4 b5 b6
  go_enter Tryz.func7, Tryz.ntmps7
  go_wp2_with fail
  go_region_held3 (fun V => V.cell? ⟨W.heap.size, 1, none⟩ = some (.int .i64 N) ∧ V.cell? ⟨W.heap.size, 2, none⟩ = some (.int .i64 I))
    (first | exact hrow.out.two | exact hrow.out.drew.two | exact A5.out.two | exact A5.out.drew.two | exact A6.out.two | exact A6.out.drew.two | exact A7.out.two | exact A7.out.drew.two)
    (first
      | (go_at_call 22; refine (PA.out _ _ (by first | exact h1.out | exact h1.out.ext (ext_drew _))).mono ?_; rintro e w5 ⟨v5, T5, rfl, i5, k5, o5⟩; have A5 := Lib.hid (hrow.out.drew.to (k5 _ (.inr rfl))); replace i5 := Lib.hid i5; replace o5 := Lib.hid o5; clear k5)
      | (go_at_call 23; refine (PX.out _ _ _ _ (by first | exact i5.out | exact i5.out.ext (ext_drew _))).mono ?_; rintro e w6 ⟨v6, vq', vf', rfl, i6, k6, o6⟩; have A6 := Lib.hid (A5.out.to (k6 _ (.inl (.inr rfl)))); have PK := Lib.hid (packets_any ls (own_ro o5.out (fun k hk => k6 k (.inr hk))) o6 rfl (by omega)); have PK2 := Lib.hid (fun W' (hb : Below w6.heap.size w6 W') => packets_any ls (own_keep (own_ro o5.out (fun k hk => k6 k (.inr hk))) hb) (own_keep o6 hb) rfl (by omega)); replace i6 := Lib.hid i6; clear k6 o6)
      | (go_at_call 18; refine (PK2.out _ (by first | exact Below.refl _ _ | exact ext_drew _)).mono ?_; rintro e w7 ⟨rfl, b7⟩; have i7 := Lib.hid (i6.out.ext (by first | exact b7 | exact ext_trans (ext_drew _) b7)); have A7 := Lib.hid (A6.out.to (b7.block _ (Array.getElem?_eq_some_iff.1 A6.out).1))))
  all_goals
    go_wp2_with fail
    go_ret
    exact do_end (by first | exact i7.out | exact i7.out.ext (ext_drew _)) hk.out so.out hI'.out q0 q1
set_option maxHeartbeats 16000000 in
set_option maxRecDepth 100000 in
theorem do_5 (h : SB R w0 W a d (fun _ => False) vi vq vf cl cn T ⟨on, L, l, lost⟩ ⟨on, L, l, lost⟩ cs n li) (hk : cs.take n = li) (so : Inb.Sorted li) (hI : Inv L) (hl0 : 0 ≤ lost) (hl1 : lost ≤ 1000000) (N I : Int) (t y : ByteArray) (q : Int) (r : Bool) :
    Calls Tryz.prog 7 #[.pointer (some ⟨a.s, 0, none⟩), .pointer (some ⟨d.x, 0, none⟩), .agg #[.int .i64 5, .int .i64 N, .int .i64 I, .string t, .string y, .int .i64 q, .bool r]] W (DoPost w0 a d cl cn lost) := by
  have hrow : ActAt (W.alloc (.cells #[.int .i64 5, .int .i64 N, .int .i64 I, .string t, .string y, .int .i64 q, .bool r] 35)) W.heap.size 5 N I t y q r := heap_alloc_new W _
  have h1 := h.more (F := fun k => k = W.heap.size) (ext_alloc W (.cells #[.int .i64 5, .int .i64 N, .int .i64 I, .string t, .string y, .int .i64 q, .bool r] 35)) (by rintro k rfl; exact ⟨Nat.le_refl _, by simp⟩)
  obtain ⟨b0, b1, b2, b3, b4, b5, b6⟩ := hrow.cs
  have hl16 : li.length ≤ 16 := by rw [← hk, List.length_take]; have := h.pb.len; omega
  have PA := b_come h1 hk so I
  have PX : ∀ (cs' : List Int) (n' : Nat) W1, SB (W.alloc (.cells #[.int .i64 5, .int .i64 N, .int .i64 I, .string t, .string y, .int .i64 q, .bool r] 35)) w0 W1 a d (fun k => False ∨ k = W.heap.size) vi vq vf cl cn T ⟨on, L, l, lost⟩ ⟨on, L, l, lost⟩ cs' n' li → _ := fun cs' n' W1 h2 => bx_come h2 hl16 so I
  have so' := Lib.hid (Inb.sorted_come so I)
  obtain ⟨c1, c2, lz, hz⟩ : ∃ c1 c2 lz, Inb.comeF I li = (c1, c2, lz) := ⟨_, _, _, rfl⟩
  simp only [hz] at PA PX so'
  replace hz := Lib.hid hz
  replace PA := Lib.hid PA
  replace PX := Lib.hid PX
  replace h := Lib.hid h
  replace h1 := Lib.hid h1
  replace hrow := Lib.hid hrow
  replace so := Lib.hid so
  replace hk := Lib.hid hk
  replace hI := Lib.hid hI
  go_enter Tryz.func7, Tryz.ntmps7
  go_wp2_with fail
  refine PA.out.mono ?_
  rintro e w2 ⟨rfl, cs', n', i2, k2⟩
  have A2 : Hid (ActAt w2 W.heap.size 5 N I t y q r) := Lib.hid (hrow.out.to (i2.ro _ (.inr rfl)).1)
  obtain ⟨e0, e1, e2, e3, e4, e5, e6⟩ := A2.out.cs
  have x5 := i2.xs.x5
  replace i2 := Lib.hid i2
  replace k2 := Lib.hid k2
  clear PA b0 b1 b2 b3 b4 b5 b6 e0 e1 e3 e4 e5 e6
  go_wp2_with fail
  go_region_held3 (fun V => V.cell? ⟨W.heap.size, 2, none⟩ = some (.int .i64 I) ∧ V.cell? ⟨d.x, 5, none⟩ = some (.pointer (some ⟨d.i, 0, none⟩)))
    (first | exact ⟨A2.out.two.2, i2.out.xs.x5⟩ | exact ⟨A2.out.drew.two.2, (i2.out.ext (ext_drew _)).xs.x5⟩ | exact ⟨(hrow.out.to (i6.out.ro _ (.inr rfl)).1).two.2, i6.out.xs.x5⟩ | exact ⟨(hrow.out.to (i6.out.ro _ (.inr rfl)).1).drew.two.2, (i6.out.ext (ext_drew _)).xs.x5⟩)
    (first
      | (go_at_call 25; refine (PX.out _ _ _ (by first | exact i2.out | exact i2.out.ext (ext_drew _))).mono ?_; rintro e w6 ⟨rfl, vi', i6⟩; replace i6 := Lib.hid i6))
  all_goals
    go_wp2_with fail
    go_ret
    exact do_end (by first | exact i6.out | exact i6.out.ext (ext_drew _)) k2.out so'.out hI.out hl0 (by show lost ≤ lost + 1; omega)
set_option maxHeartbeats 16000000 in
set_option maxRecDepth 100000 in
theorem do_6 (h : SB R w0 W a d (fun _ => False) vi vq vf cl cn T ⟨on, L, l, lost⟩ ⟨on, L, l, lost⟩ cs n li) (hk : cs.take n = li) (so : Inb.Sorted li) (hI : Inv L) (hl0 : 0 ≤ lost) (hl1 : lost ≤ 1000000) (N I : Int) (t y : ByteArray) (q : Int) (r : Bool) :
    Calls Tryz.prog 7 #[.pointer (some ⟨a.s, 0, none⟩), .pointer (some ⟨d.x, 0, none⟩), .agg #[.int .i64 6, .int .i64 N, .int .i64 I, .string t, .string y, .int .i64 q, .bool r]] W (DoPost w0 a d cl cn lost) := by
  have hrow : ActAt (W.alloc (.cells #[.int .i64 6, .int .i64 N, .int .i64 I, .string t, .string y, .int .i64 q, .bool r] 35)) W.heap.size 6 N I t y q r := heap_alloc_new W _
  have h1 := h.more (F := fun k => k = W.heap.size) (ext_alloc W (.cells #[.int .i64 6, .int .i64 N, .int .i64 I, .string t, .string y, .int .i64 q, .bool r] 35)) (by rintro k rfl; exact ⟨Nat.le_refl _, by simp⟩)
  obtain ⟨b0, b1, b2, b3, b4, b5, b6⟩ := hrow.cs
  have hl16 : li.length ≤ 16 := by rw [← hk, List.length_take]; have := h.pb.len; omega
  have PA : ∀ W1, SB (W.alloc (.cells #[.int .i64 6, .int .i64 N, .int .i64 I, .string t, .string y, .int .i64 q, .bool r] 35)) w0 W1 a d (fun k => False ∨ k = W.heap.size) vi vq vf cl cn T ⟨on, L, l, lost⟩ ⟨on, L, l, lost⟩ cs n li → _ := fun W1 h2 => b_done h2 hk so I
  have PX : ∀ (cs' : List Int) (n' : Nat) W1, SB (W.alloc (.cells #[.int .i64 6, .int .i64 N, .int .i64 I, .string t, .string y, .int .i64 q, .bool r] 35)) w0 W1 a d (fun k => False ∨ k = W.heap.size) vi vq vf cl cn T ⟨on, L, l, lost⟩ ⟨on, L, l, lost⟩ cs' n' li → _ := fun cs' n' W1 h2 => bx_done h2 hl16 I
  have so' := Lib.hid (Inb.sorted_away so I)
  obtain ⟨lz, hz⟩ : ∃ lz, lz = Inb.outOf I li := ⟨_, rfl⟩
  simp only [← hz] at PA PX so'
  obtain ⟨c1, hc1⟩ : ∃ c1, c1 = decide (lz.length < li.length) := ⟨_, rfl⟩
  simp only [← hc1] at PA PX
  replace hc1 := Lib.hid hc1
  replace hz := Lib.hid hz
  replace PA := Lib.hid PA
  replace PX := Lib.hid PX
  have x5 := h1.xs.x5
  replace h := Lib.hid h
  replace h1 := Lib.hid h1
  replace hrow := Lib.hid hrow
  replace so := Lib.hid so
  replace hk := Lib.hid hk
  replace hI := Lib.hid hI
  clear b1 b3 b4 b5 b6
  go_enter Tryz.func7, Tryz.ntmps7
  go_wp2_with fail
  go_region_held3 (fun V => V.cell? ⟨W.heap.size, 2, none⟩ = some (.int .i64 I) ∧ V.cell? ⟨d.x, 5, none⟩ = some (.pointer (some ⟨d.i, 0, none⟩)))
    (first | exact ⟨hrow.out.two.2, h1.out.xs.x5⟩ | exact ⟨hrow.out.drew.two.2, (h1.out.ext (ext_drew _)).xs.x5⟩ | exact ⟨(hrow.out.to (i5.out.ro _ (.inr rfl)).1).two.2, i5.out.xs.x5⟩ | exact ⟨(hrow.out.to (i5.out.ro _ (.inr rfl)).1).drew.two.2, (i5.out.ext (ext_drew _)).xs.x5⟩ | exact ⟨(hrow.out.to (i6.out.ro _ (.inr rfl)).1).two.2, i6.out.xs.x5⟩ | exact ⟨(hrow.out.to (i6.out.ro _ (.inr rfl)).1).drew.two.2, (i6.out.ext (ext_drew _)).xs.x5⟩)
    (first
      | (go_at_call 26; refine (PA.out _ (by first | exact h1.out | exact h1.out.ext (ext_drew _))).mono ?_; rintro e w5 ⟨rfl, cs', n', i5, k5⟩; replace i5 := Lib.hid i5; replace k5 := Lib.hid k5)
      | (go_at_call 27; refine (PX.out _ _ _ (by first | exact i5.out | exact i5.out.ext (ext_drew _))).mono ?_; rintro e w6 ⟨rfl, vi', i6⟩; replace i6 := Lib.hid i6))
  all_goals
    go_wp2_with fail
    go_ret
    exact do_end (by first | exact i6.out | exact i6.out.ext (ext_drew _)) k5.out so'.out hI.out hl0 (by show lost ≤ lost + 1; omega)
set_option maxHeartbeats 16000000 in
set_option maxRecDepth 100000 in
theorem do_o (h : SB R w0 W a d (fun _ => False) vi vq vf cl cn T ⟨on, L, l, lost⟩ ⟨on, L, l, lost⟩ cs n li) (hk : cs.take n = li) (so : Inb.Sorted li) (hI : Inv L) (hl0 : 0 ≤ lost) (hl1 : lost ≤ 1000000) (N I : Int) (t y : ByteArray) (q : Int) (r : Bool) (K : Int) (hK : K ≠ 0 ∧ K ≠ 1 ∧ K ≠ 2 ∧ K ≠ 3 ∧ K ≠ 4 ∧ K ≠ 5 ∧ K ≠ 6) :
    Calls Tryz.prog 7 #[.pointer (some ⟨a.s, 0, none⟩), .pointer (some ⟨d.x, 0, none⟩), .agg #[.int .i64 K, .int .i64 N, .int .i64 I, .string t, .string y, .int .i64 q, .bool r]] W (DoPost w0 a d cl cn lost) := by
  have hrow : ActAt (W.alloc (.cells #[.int .i64 K, .int .i64 N, .int .i64 I, .string t, .string y, .int .i64 q, .bool r] 35)) W.heap.size K N I t y q r := heap_alloc_new W _
  have h1 := h.more (F := fun k => k = W.heap.size) (ext_alloc W (.cells #[.int .i64 K, .int .i64 N, .int .i64 I, .string t, .string y, .int .i64 q, .bool r] 35)) (by rintro k rfl; exact ⟨Nat.le_refl _, by simp⟩)
  obtain ⟨b0, b1, b2, b3, b4, b5, b6⟩ := hrow.cs
  have k0 : (K == 0) = false := by simpa using hK.1
  have k1 : (K == 1) = false := by simpa using hK.2.1
  have k2 : (K == 2) = false := by simpa using hK.2.2.1
  have k3 : (K == 3) = false := by simpa using hK.2.2.2.1
  have k4 : (K == 4) = false := by simpa using hK.2.2.2.2.1
  have k5 : (K == 5) = false := by simpa using hK.2.2.2.2.2.1
  have k6 : (K == 6) = false := by simpa using hK.2.2.2.2.2.2
  replace h := Lib.hid h
  replace h1 := Lib.hid h1
  replace hrow := Lib.hid hrow
  replace so := Lib.hid so
  replace hk := Lib.hid hk
  replace hI := Lib.hid hI
  clear b1 b2 b3 b4 b5 b6 hK
  go_enter Tryz.func7, Tryz.ntmps7
  go_wp2_with fail
  go_ret
  exact do_end h1.out hk.out so.out hI.out hl0 (by show lost ≤ lost + 1; omega)
theorem do_any {p : PS} (h : SB R w0 W a d (fun _ => False) vi vq vf cl cn T p p cs n li) (hk : cs.take n = li) (so : Inb.Sorted li) (hI : Inv p.L) (hl0 : 0 ≤ p.lost) (hl1 : p.lost ≤ 1000000) (K N I : Int) (t y : ByteArray) (q : Int) (r : Bool) :
    Calls Tryz.prog 7 #[.pointer (some ⟨a.s, 0, none⟩), .pointer (some ⟨d.x, 0, none⟩), .agg #[.int .i64 K, .int .i64 N, .int .i64 I, .string t, .string y, .int .i64 q, .bool r]] W (DoPost w0 a d cl cn p.lost) := by
  obtain ⟨on, L, l, lost⟩ := p
  by_cases h0 : K = 0
  · subst h0; exact do_0 h hk so hI hl0 hl1 N I t y q r
  by_cases h1 : K = 1
  · subst h1; exact do_1 h hk so hI hl0 hl1 N I t y q r
  by_cases h2 : K = 2
  · subst h2; exact do_2 h hk so hI hl0 hl1 N I t y q r
  by_cases h3 : K = 3
  · subst h3; exact do_3 h hk so hI hl0 hl1 N I t y q r
  by_cases h4 : K = 4
  · subst h4; exact do_4 h hk so hI hl0 hl1 N I t y q r
  by_cases h5 : K = 5
  · subst h5; exact do_5 h hk so hI hl0 hl1 N I t y q r
  by_cases h6 : K = 6
  · subst h6; exact do_6 h hk so hI hl0 hl1 N I t y q r
  exact do_o h hk so hI hl0 hl1 N I t y q r K ⟨h0, h1, h2, h3, h4, h5, h6⟩
end
end Go.Proofs.YtceiipcdkonnlaaGreat.Ses

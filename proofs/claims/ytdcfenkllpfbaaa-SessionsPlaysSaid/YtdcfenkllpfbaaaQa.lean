/-
  LAYER 22: a message into a queue, and out of it: the machine's own steps.
-/
import Derived.Test.YtdcfenkllpfbaaaCom
import Derived.Test.YtdcfenkllpfbaaaChecked
import Derived.Conc.LoneCalls
import Derived.Conc.LoneSelect
import Derived.KernelRfl
namespace Go.Proofs.Ytdcfenkllpfbaaa.Quu
set_option linter.unusedSimpArgs false
set_option linter.unusedVariables false
open Go.RowKit Go.Conc

def zM : Value := .agg #[.string { data := #[] }, .string { data := #[] }, .int .i64 0, .bool false]
theorem heap_alloc_old (w : World) (o : Obj) {c : Nat} (h : c < w.heap.size) : (w.alloc o).heap[c]? = w.heap[c]? := Below.heap_alloc _ _ _ h
theorem setChan_far (w : World) {c cap : Nat} {buf : Array Value} {cl : Bool} {s r : Nat} {tm : Bool} {k : Nat} (h : c ≠ k) : (w.setChan c cap buf cl s r tm).heap[k]? = w.heap[k]? := by
  simp [World.setChan, Array.getElem?_setIfInBounds_ne h]
theorem chan_grown (w : World) (o : Obj) {c cap : Nat} {buf : Array Value} {cl : Bool} {s r : Nat} {tm : Bool} (h : c < w.heap.size) : w.grownBy ((w.alloc o).setChan c cap buf cl s r tm) (some c) :=
  ⟨rfl, rfl, rfl, by rw [size_setChan]; simp, fun k hk hne => by rw [setChan_far _ (fun e => hne (by rw [e])), heap_alloc_old w o hk]⟩
theorem grown_below {w W W2 : World} {r : Option Nat} (h : w.grownBy W r) (b : Below w.heap.size W W2) : w.grownBy W2 r :=
  ⟨b.os.trans h.os, b.tape.trans h.tape, b.output.trans h.output, Nat.le_trans h.size b.size, fun k hk hne => (b.block k hk).trans (h.block k hk hne)⟩

set_option maxHeartbeats 1000000 in
set_option maxRecDepth 100000 in
theorem put_room (g c cap s r : Nat) (buf : Array Value) (t x : ByteArray) (q : Int) (rt : Bool) (w : World)
    (h0 : w.cell? ⟨g, 0, none⟩ = some (.chan (some c))) (hg : g < w.heap.size) (hc : w.heap[c]? = some (.chan cap buf false s r false)) (hr : buf.size < cap) :
    Calls Try.prog 31 #[.pointer (some ⟨g, 0, none⟩), .agg #[.string t, .string x, .int .i64 q, .bool rt]] w fun e w' => e = .returned (.bool true) ∧
      w' = (w.alloc (.cells #[.string t, .string x, .int .i64 q, .bool rt] 46)).setChan c cap (buf.push (.agg #[.string t, .string x, .int .i64 q, .bool rt])) false (s + 1) r false := by
  refine calls_of_loneTo fun cs => ?_
  have e : Frame.enter Try.prog 31 #[.pointer (some ⟨g, 0, none⟩), .agg #[.string t, .string x, .int .i64 q, .bool rt]] .normal = (base 31).at ⟨#[.pointer (some ⟨g, 0, none⟩), .agg #[.string t, .string x, .int .i64 q, .bool rt], undef, undef, undef, undef, undef, undef, undef, undef, undef, undef, undef, undef, undef, undef, undef, undef, undef, undef, undef, undef], []⟩ [.code (Try.f31.body.getD .skip)] := by
    simp [Frame.enter, Frame.at, Try.func31, base, Try.f31]
  rw [e]
  have hcl : c < w.heap.size := (Array.getElem?_eq_some_iff.1 hc).1
  refine LoneTo.goes (n := 60) ?_
  simp only [Try.f31, Option.getD_some]
  repeat (first | s_op | s_c stepG_region_end | s_c stepG_seq | s_c stepG_block | s_c stepG_skip | s_c stepG_inBlock | s_c stepG_ret' | s_c stepG_end | s_reg | s_cond true | s_cond false)
  s_call Try.func43 (by kernel_rfl) Try.f43
  repeat (first | s_op | s_c stepG_region_end | s_c stepG_seq | s_c stepG_block | s_c stepG_skip | s_c stepG_inBlock | s_c stepG_ret' | s_c stepG_end | s_reg | s_cond true | s_cond false)
  s_leave1 Try.func43
  repeat (first | s_op | s_c stepG_region_end | s_c stepG_seq | s_c stepG_block | s_c stepG_skip | s_c stepG_inBlock | s_c stepG_ret' | s_c stepG_end | s_reg | s_cond true | s_cond false)
  s_stop
  refine LoneTo.step (step_lone_select_send_room (c := c) (cap := cap) (buf := buf) (s := s) (r := r) (tm := false) (stepG_comm (cases := #[scase c (.agg #[.string t, .string x, .int .i64 q, .bool rt]) zM]) (blocking := false) (shape := .select) (w' := w.alloc (.cells #[.string t, .string x, .int .i64 q, .bool rt] 46)) rfl rfl (by decide) (by simp [go_sem, execOp, scase, Act.eval, zM])) ((heap_alloc_old w _ hcl).trans hc) hr) ?_
  rw [Frame.finish_at]
  walk_nrm
  refine LoneTo.goes (n := 30) ?_
  repeat (first | s_op | s_c stepG_region_end | s_c stepG_seq | s_c stepG_block | s_c stepG_skip | s_c stepG_inBlock | s_c stepG_ret' | s_c stepG_end | s_reg | s_cond true | s_cond false)
  s_stop
  refine LoneTo.done ⟨.returned (.bool true), _, rfl, ⟨rfl, rfl⟩, rfl, rfl, rfl, rfl, _, Try.func31, by simp [results, Try.f31, Frame.at]⟩

set_option maxHeartbeats 1000000 in
set_option maxRecDepth 100000 in
theorem put_full (g c cap s r : Nat) (lost : Int) (buf : Array Value) (t x : ByteArray) (q : Int) (rt : Bool) (w : World)
    (h0 : w.cell? ⟨g, 0, none⟩ = some (.chan (some c))) (h1 : w.cell? ⟨g, 1, none⟩ = some (.int .i64 lost)) (hf : w.frozen? ⟨g, 1, none⟩ = false) (hl0 : 0 ≤ lost) (hl1 : lost ≤ 1000000) (hg : g < w.heap.size) (hc : w.heap[c]? = some (.chan cap buf false s r false)) (hr : cap ≤ buf.size) :
    Calls Try.prog 31 #[.pointer (some ⟨g, 0, none⟩), .agg #[.string t, .string x, .int .i64 q, .bool rt]] w fun e w' => e = .returned (.bool false) ∧
      w' = (w.setCell ⟨g, 1, none⟩ (.int .i64 (lost + 1))).alloc (.cells #[.string t, .string x, .int .i64 q, .bool rt] 46) := by
  refine calls_of_loneTo fun cs => ?_
  have e : Frame.enter Try.prog 31 #[.pointer (some ⟨g, 0, none⟩), .agg #[.string t, .string x, .int .i64 q, .bool rt]] .normal = (base 31).at ⟨#[.pointer (some ⟨g, 0, none⟩), .agg #[.string t, .string x, .int .i64 q, .bool rt], undef, undef, undef, undef, undef, undef, undef, undef, undef, undef, undef, undef, undef, undef, undef, undef, undef, undef, undef, undef], []⟩ [.code (Try.f31.body.getD .skip)] := by
    simp [Frame.enter, Frame.at, Try.func31, base, Try.f31]
  rw [e]
  have hcl : c < w.heap.size := (Array.getElem?_eq_some_iff.1 hc).1
  refine LoneTo.goes (n := 60) ?_
  simp only [Try.f31, Option.getD_some]
  repeat (first | s_op | s_c stepG_region_end | s_c stepG_seq | s_c stepG_block | s_c stepG_skip | s_c stepG_inBlock | s_c stepG_ret' | s_c stepG_end | s_reg | s_cond true | s_cond false)
  s_call Try.func43 (by kernel_rfl) Try.f43
  repeat (first | s_op | s_c stepG_region_end | s_c stepG_seq | s_c stepG_block | s_c stepG_skip | s_c stepG_inBlock | s_c stepG_ret' | s_c stepG_end | s_reg | s_cond true | s_cond false)
  s_leave1 Try.func43
  repeat (first | s_op | s_c stepG_region_end | s_c stepG_seq | s_c stepG_block | s_c stepG_skip | s_c stepG_inBlock | s_c stepG_ret' | s_c stepG_end | s_reg | s_cond true | s_cond false)
  s_stop
  refine LoneTo.step (step_lone_select_send_full (c := c) (cap := cap) (buf := buf) (s := s) (r := r) (tm := false) (stepG_comm (cases := #[scase c (.agg #[.string t, .string x, .int .i64 q, .bool rt]) zM]) (blocking := false) (shape := .select) (w' := w.alloc (.cells #[.string t, .string x, .int .i64 q, .bool rt] 46)) rfl rfl (by decide) (by simp [go_sem, execOp, scase, Act.eval, zM])) ((heap_alloc_old w _ hcl).trans hc) hr) ?_
  rw [Frame.finish_at]
  walk_nrm
  refine LoneTo.goes (n := 30) ?_
  repeat (first | s_op | s_c stepG_region_end | s_c stepG_seq | s_c stepG_block | s_c stepG_skip | s_c stepG_inBlock | s_c stepG_ret' | s_c stepG_end | s_reg | s_cond true | s_cond false)
  s_stop
  refine LoneTo.done ⟨.returned (.bool false), _, rfl, ⟨rfl, by rw [IntWalk.i64_in _ (by omega)]⟩, rfl, rfl, rfl, rfl, _, Try.func31, by simp [results, Try.f31, Frame.at]⟩

set_option maxHeartbeats 1000000 in
set_option maxRecDepth 100000 in
theorem take_some (g c cap s r : Nat) (buf : Array Value) (t x : ByteArray) (q : Int) (rt : Bool) (w : World)
    (h0 : w.cell? ⟨g, 0, none⟩ = some (.chan (some c))) (hg : g < w.heap.size) (hc : w.heap[c]? = some (.chan cap buf false s r false)) (hr : buf.getD 0 undef = .agg #[.string t, .string x, .int .i64 q, .bool rt]) (hs : 0 < buf.size) :
    Calls Try.prog 46 #[.pointer (some ⟨g, 0, none⟩)] w fun e w' => e = .returned (.tuple #[.agg #[.string t, .string x, .int .i64 q, .bool rt], .bool true]) ∧
      (∃ s' r', w'.heap[c]? = some (.chan cap (buf.extract 1) false s' r' false)) ∧ w.grownBy w' (some c) := by
  refine calls_of_loneTo fun cs => ?_
  have e : Frame.enter Try.prog 46 #[.pointer (some ⟨g, 0, none⟩)] .normal = (base 46).at ⟨#[.pointer (some ⟨g, 0, none⟩), undef, undef, undef, undef, undef, undef, undef, undef, undef, undef, undef, undef, undef, undef, undef, undef, undef], []⟩ [.code (Try.f46.body.getD .skip)] := by
    simp [Frame.enter, Frame.at, Try.func46, base, Try.f46]
  rw [e]
  have hcl : c < w.heap.size := (Array.getElem?_eq_some_iff.1 hc).1
  refine LoneTo.goes (n := 60) ?_
  simp only [Try.f46, Option.getD_some]
  repeat (first | s_op | s_c stepG_region_end | s_c stepG_seq | s_c stepG_block | s_c stepG_skip | s_c stepG_inBlock | s_c stepG_ret' | s_c stepG_end | s_reg | s_cond true | s_cond false)
  s_call Try.func43 (by kernel_rfl) Try.f43
  repeat (first | s_op | s_c stepG_region_end | s_c stepG_seq | s_c stepG_block | s_c stepG_skip | s_c stepG_inBlock | s_c stepG_ret' | s_c stepG_end | s_reg | s_cond true | s_cond false)
  s_leave1 Try.func43
  repeat (first | s_op | s_c stepG_region_end | s_c stepG_seq | s_c stepG_block | s_c stepG_skip | s_c stepG_inBlock | s_c stepG_ret' | s_c stepG_end | s_reg | s_cond true | s_cond false)
  s_stop
  refine LoneTo.step (step_lone_select_recv_buf (c := c) (cap := cap) (buf := buf) (s := s) (r := r) (tm := false) (closed := false) (stepG_comm (cases := #[rcase c zM]) (blocking := false) (shape := .select) (w' := w.alloc (.cells #[.string { data := #[] }, .string { data := #[] }, .int .i64 0, .bool false] 46)) rfl rfl (by decide) (by simp [go_sem, execOp, rcase, Act.eval, zM])) ((heap_alloc_old w _ hcl).trans hc) hs) ?_
  rw [Frame.finish_at, hr]
  walk_nrm
  have hrow : ((w.alloc (.cells #[.string { data := #[] }, .string { data := #[] }, .int .i64 0, .bool false] 46)).setChan c cap (buf.extract 1) false s (r + 1) false).heap[w.heap.size]? = some (.cells #[.string { data := #[] }, .string { data := #[] }, .int .i64 0, .bool false] 46 (0, 0)) := by
    rw [setChan_far _ (by omega)]
    exact heap_alloc_new w _
  have hz : ((w.alloc (.cells #[.string { data := #[] }, .string { data := #[] }, .int .i64 0, .bool false] 46)).setChan c cap (buf.extract 1) false s (r + 1) false).heap.size = w.heap.size + 1 := by rw [size_setChan]; simp
  have hgr : w.grownBy ((w.alloc (.cells #[.string { data := #[] }, .string { data := #[] }, .int .i64 0, .bool false] 46)).setChan c cap (buf.extract 1) false s (r + 1) false) (some c) := chan_grown w _ hcl
  have hch : ((w.alloc (.cells #[.string { data := #[] }, .string { data := #[] }, .int .i64 0, .bool false] 46)).setChan c cap (buf.extract 1) false s (r + 1) false).heap[c]? = some (.chan cap (buf.extract 1) false s (r + 1) false) := heap_setChan _ _ _ _ _ _ _ _ (by simp; omega)
  generalize (w.alloc (.cells #[.string { data := #[] }, .string { data := #[] }, .int .i64 0, .bool false] 46)).setChan c cap (buf.extract 1) false s (r + 1) false = W1 at *
  have k0 : W1.cell? ⟨w.heap.size, 0, none⟩ = some (.string { data := #[] }) := cell_of_row W1 _ 0 _ 46 (0, 0) hrow
  have k1 : W1.cell? ⟨w.heap.size, 1, none⟩ = some (.string { data := #[] }) := cell_of_row W1 _ 1 _ 46 (0, 0) hrow
  have k2 : W1.cell? ⟨w.heap.size, 2, none⟩ = some (.int .i64 0) := cell_of_row W1 _ 2 _ 46 (0, 0) hrow
  have k3 : W1.cell? ⟨w.heap.size, 3, none⟩ = some (.bool false) := cell_of_row W1 _ 3 _ 46 (0, 0) hrow
  have f0 := frozen_of_row W1 w.heap.size 0 _ 46 hrow
  have f1 := frozen_of_row W1 w.heap.size 1 _ 46 hrow
  have f2 := frozen_of_row W1 w.heap.size 2 _ 46 hrow
  have f3 := frozen_of_row W1 w.heap.size 3 _ 46 hrow
  have hlt : w.heap.size < W1.heap.size := by omega
  replace hrow := Lib.hid hrow
  replace hch := Lib.hid hch
  refine LoneTo.goes (n := 40) ?_
  repeat (first | s_op | s_c stepG_region_end | s_c stepG_seq | s_c stepG_block | s_c stepG_skip | s_c stepG_inBlock | s_c stepG_ret' | s_c stepG_end | s_reg | s_cond true | s_cond false)
  s_stop
  have hb : Below w.heap.size W1 (((((W1.setCell ⟨w.heap.size, 0, none⟩ (.string t)).setCell ⟨w.heap.size, 1, none⟩ (.string x)).setCell ⟨w.heap.size, 2, none⟩ (.int .i64 q)).setCell ⟨w.heap.size, 3, none⟩ (.bool rt)).alloc (.cells #[.string t, .string x, .int .i64 q, .bool rt] 46)) :=
    Below.alloc (Below.setCell (Below.setCell (Below.setCell (Below.setCell (Below.refl _ _) (p := ⟨w.heap.size, 0, none⟩) (Nat.le_refl _) _) (p := ⟨w.heap.size, 1, none⟩) (Nat.le_refl _) _) (p := ⟨w.heap.size, 2, none⟩) (Nat.le_refl _) _) (p := ⟨w.heap.size, 3, none⟩) (Nat.le_refl _) _) (Nat.le_trans (Nat.le_of_lt hlt) (by simp [World.setCell])) _
  refine LoneTo.done ⟨.returned (.tuple #[.agg #[.string t, .string x, .int .i64 q, .bool rt], .bool true]), _, rfl, ⟨rfl, ⟨_, _, (hb.block c hcl).trans hch.out⟩, grown_below hgr hb⟩, rfl, rfl, rfl, rfl, _, Try.func46, by simp [results, Try.f46, Frame.at, go_sem, k0, k1, k2, k3, hlt]⟩

set_option maxHeartbeats 1000000 in
set_option maxRecDepth 100000 in
theorem take_none (g c cap s r : Nat) (w : World)
    (h0 : w.cell? ⟨g, 0, none⟩ = some (.chan (some c))) (hg : g < w.heap.size) (hc : w.heap[c]? = some (.chan cap #[] false s r false)) :
    Calls Try.prog 46 #[.pointer (some ⟨g, 0, none⟩)] w fun e w' => e = .returned (.tuple #[zM, .bool false]) ∧ Below w.heap.size w w' := by
  refine calls_of_loneTo fun cs => ?_
  have e : Frame.enter Try.prog 46 #[.pointer (some ⟨g, 0, none⟩)] .normal = (base 46).at ⟨#[.pointer (some ⟨g, 0, none⟩), undef, undef, undef, undef, undef, undef, undef, undef, undef, undef, undef, undef, undef, undef, undef, undef, undef], []⟩ [.code (Try.f46.body.getD .skip)] := by
    simp [Frame.enter, Frame.at, Try.func46, base, Try.f46]
  rw [e]
  have hcl : c < w.heap.size := (Array.getElem?_eq_some_iff.1 hc).1
  refine LoneTo.goes (n := 60) ?_
  simp only [Try.f46, Option.getD_some]
  repeat (first | s_op | s_c stepG_region_end | s_c stepG_seq | s_c stepG_block | s_c stepG_skip | s_c stepG_inBlock | s_c stepG_ret' | s_c stepG_end | s_reg | s_cond true | s_cond false)
  s_call Try.func43 (by kernel_rfl) Try.f43
  repeat (first | s_op | s_c stepG_region_end | s_c stepG_seq | s_c stepG_block | s_c stepG_skip | s_c stepG_inBlock | s_c stepG_ret' | s_c stepG_end | s_reg | s_cond true | s_cond false)
  s_leave1 Try.func43
  repeat (first | s_op | s_c stepG_region_end | s_c stepG_seq | s_c stepG_block | s_c stepG_skip | s_c stepG_inBlock | s_c stepG_ret' | s_c stepG_end | s_reg | s_cond true | s_cond false)
  s_stop
  refine LoneTo.step (step_lone_select_default (c := c) (cap := cap) (s := s) (r := r) (tm := false) (stepG_comm (cases := #[rcase c zM]) (blocking := false) (shape := .select) (w' := w.alloc (.cells #[.string { data := #[] }, .string { data := #[] }, .int .i64 0, .bool false] 46)) rfl rfl (by decide) (by simp [go_sem, execOp, rcase, Act.eval, zM])) ((heap_alloc_old w _ hcl).trans hc)) ?_
  rw [Frame.finish_at]
  walk_nrm
  refine LoneTo.goes (n := 40) ?_
  repeat (first | s_op | s_c stepG_region_end | s_c stepG_seq | s_c stepG_block | s_c stepG_skip | s_c stepG_inBlock | s_c stepG_ret' | s_c stepG_end | s_reg | s_cond true | s_cond false)
  s_stop
  refine LoneTo.done ⟨.returned (.tuple #[zM, .bool false]), _, rfl, ⟨rfl, ?_⟩, rfl, rfl, rfl, rfl, _, Try.func46, by simp [results, Try.f46, Frame.at, go_sem, zM]⟩
  exact (Below.refl _ _).alloc (Nat.le_refl _) _
end Go.Proofs.Ytdcfenkllpfbaaa.Quu

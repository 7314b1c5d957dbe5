/-
  LAYER 16: the program's read, kind by kind.
-/
import Derived.Test.YtmpklaokgogigaaDoorLa
import Derived.Test.YtmpklaokgogigaaDoorKd
import Derived.Test.YtmpklaokgogigaaDoorSn
import Derived.Test.YtmpklaokgogigaaDoorSh
import Derived.Test.YtmpklaokgogigaaDoorPp
import Derived.Test.YtmpklaokgogigaaDoorCc
import Derived.Test.YtmpklaokgogigaaDoorRc
import Derived.Deep.DeepMust
namespace Go.Proofs.YtmpklaokgogigaaDoor.Pac
set_option linter.unusedVariables false
set_option linter.unusedSimpArgs false
open Go.Proofs.YtmpklaokgogigaaDoor
open Go.RowKit
theorem read_end {w W : World} {br : Nat} {tmps : Array Value} {P : Pk} {fs cs : Value} {m : Int} (hr : Blk W br 33 (P.v fs cs)) (h2 : tmps.getD 2 undef = .pointer (some ⟨br, 0, none⟩)) (h3 : tmps.getD 3 undef = .int .i64 m)
    (hb : Below w.heap.size w W) (hf : FisAt W fs P.fl ∧ Fresh w.heap.size fs) (hc : IntsAt W cs P.cl ∧ Fresh w.heap.size cs) : bodyPost Tryd.prog Tryd.f17 (PkP P m w) .ret { tmps := tmps, defers := [] } W := by
  have r1 := run_loadVar_row (P := Tryd.prog) W br 33 33 (P.v fs cs) (0, 0) _ hr Tryd.underlying33 rfl (by kernel_rfl)
  simp only [Array.getD_eq_getD_getElem?] at h2 h3
  exact ⟨rfl, _, by simp [results, Tryd.f17, h2, h3, asAddr, r1], fs, cs, rfl, hf, hc, hb⟩
theorem no_fis (W : World) (B : Nat) : FisAt W noS [] ∧ Fresh B noS := ⟨fis_none _, fresh_nil _⟩
theorem no_ints (W : World) (B : Nat) : IntsAt W noS [] ∧ Fresh B noS := ⟨ints_none _, fresh_nil _⟩
theorem size27 {a b c d : Value} : (Tryd.prog.info? 27).map (·.size) = some (#[a, b, c, d] : Array Value).size := by kernel_rfl
theorem size29 (X : Con.Con) : (Tryd.prog.info? 29).map (·.size) = some X.v.size := by kernel_rfl
theorem one29 (X : Con.Con) : X.v.all (·.oneCell') = true := by simp [Con.Con.v, Value.oneCell']
theorem one27 (t x : ByteArray) (q : Int) (r : Bool) : (#[.string t, .string x, .int .i64 q, .bool r] : Array Value).all (·.oneCell') = true := by simp [Value.oneCell']
def Z (k : Int) : Array Value := (pk0 k).v noS noS
theorem z_sets (k : Int) (X : Con.Con) : setsA (Z k) 7 X.v.toList = Pk.v (pkC k X) noS noS := by
  obtain ⟨x0, x1, x2, x3, x4, x5, x6, x7, x8, x9, x10, x11, x12⟩ := X
  simp [Z, Pk.v, pk0, pkC, setsA, Con.Con.v]
theorem PR.start0 (w : World) (k f n : Int) (s : ByteArray) : PR w w.heap.size (w.heap.size + 1) k f n s (Z k) ((w.alloc (.cells #[.int .i64 k, .int .i64 f, .int .i64 n, .string s] 25)).alloc (.cells (Z k) 33)) := PR.start w k f n s (Z k)
set_option maxRecDepth 100000 in
set_option maxHeartbeats 4000000 in
theorem read_1 (f n : Int) (s : ByteArray) (w : World) (hs : s.size ≤ 140737488351232) : Calls Tryd.prog 17 #[.agg #[.int .i64 1, .int .i64 f, .int .i64 n, .string s]] w (PkP (pkC 1 (Con.docV (txtL s)).1) (Con.docV (txtL s)).2 w) := by
  have P0 := Lib.hid (PR.start0 w 1 f n s)
  have C := Lib.hid (fun W => Con.of_any s W hs)
  generalize Con.docV (txtL s) = R at *
  obtain ⟨X, E⟩ := R
  dsimp only
  go_enter Tryd.func17, Tryd.ntmps17
  go_wp2_with fail
  refine (C.out _).mono ?_
  rintro e w2 ⟨rfl, b⟩
  have p := P0.out.ext b
  have TH := Lib.hid (blk_there p.r 7 13 (by decide))
  have P1 := p.sets 7 X.v.toList
  rw [z_sets 1 X] at P1
  have P := Lib.hid P1
  clear p b P0 C P1
  go_wp2_with (first
    | (refine wpList_store_mid rfl 29 (.tmp 24) (.tmp 22) rfl (w.heap.size + 1) 7 X.v rfl rfl TH.out (size29 X) (one29 X) ?_; generalize (w2.setCells (w.heap.size + 1) 7 X.v.toList) = W4 at *)
    | (refine wpList_load_row rfl 33 (.tmp 2) rfl (w.heap.size + 1) rfl 33 (Pk.v (pkC 1 X) noS noS) (0, 0) _ ?_ Tryd.underlying33 rfl (pk_size _ _ _) ?_; exact P.out.r)
    | (refine wpList_store_row rfl 33 (.tmp 2) (.tmp 100) rfl (w.heap.size + 1) (Pk.v (pkC 1 X) noS noS) rfl rfl 33 (Pk.v (pkC 1 X) noS noS) ?_ (pk_size _ _ _) rfl (pk_one _ _ _ rfl rfl) ?_; exact P.out.r; rw [P.out.same]))
  exact read_end (P := (pkC 1 X)) (m := E) P.out.r rfl rfl P.out.bw (no_fis _ _) (no_ints _ _)
set_option maxRecDepth 100000 in
set_option maxHeartbeats 4000000 in
theorem read_2 (f n : Int) (s : ByteArray) (w : World) : Calls Tryd.prog 17 #[.agg #[.int .i64 2, .int .i64 f, .int .i64 n, .string s]] w (PkP (pkA 2 (Pub.ackF s).1 (Pub.ackF s).2.1) (Pub.ackF s).2.2 w) := by
  have P0 := Lib.hid (PR.start0 w 2 f n s)
  have C := Lib.hid (fun W => (Pub.ofacks s W).1)
  generalize Pub.ackF s = R at *
  obtain ⟨X, c, E⟩ := R
  dsimp only
  go_enter Tryd.func17, Tryd.ntmps17
  go_wp2_with fail
  refine (C.out _).mono ?_
  rintro e w2 ⟨rfl, b⟩
  have p := P0.out.ext b
  have P1 : PR w _ _ _ f n s (Pk.v (pkA 2 X c) noS noS) _ := (p.set 20 (.bool X)).set 21 (.int .i64 c)
  have P := Lib.hid P1
  have d0 := p.r.cell 20
  have d1 := p.r.cell 21
  have fz := fun i => p.r.fz i
  clear p b P0 C P1
  go_wp2_with (first
    | (refine wpList_load_row rfl 33 (.tmp 2) rfl (w.heap.size + 1) rfl 33 (Pk.v (pkA 2 X c) noS noS) (0, 0) _ ?_ Tryd.underlying33 rfl (pk_size _ _ _) ?_; exact P.out.r)
    | (refine wpList_store_row rfl 33 (.tmp 2) (.tmp 100) rfl (w.heap.size + 1) (Pk.v (pkA 2 X c) noS noS) rfl rfl 33 (Pk.v (pkA 2 X c) noS noS) ?_ (pk_size _ _ _) rfl (pk_one _ _ _ rfl rfl) ?_; exact P.out.r; rw [P.out.same]))
  exact read_end (P := (pkA 2 X c)) (m := E) P.out.r rfl rfl P.out.bw (no_fis _ _) (no_ints _ _)
set_option maxRecDepth 100000 in
set_option maxHeartbeats 4000000 in
theorem read_3 (f n : Int) (s : ByteArray) (w : World) (ht : Hea.Tab3 w) (d : Bool) (Q : Int) (R : Bool) (t x : ByteArray) (q i E : Int)
    (hT : ∀ W, Hea.Tab3 W → Calls Tryd.prog 32 #[.int .i64 f] W fun e W' => e = .returned (.tuple #[.bool d, .int .i64 Q, .bool R]) ∧ W = W')
    (hC : ∀ W, Calls Tryd.prog 33 #[.string s, .int .i64 Q] W (Pub.OfPost (.agg #[.string t, .string x, .int .i64 q, .bool false]) i E W)) : Calls Tryd.prog 17 #[.agg #[.int .i64 3, .int .i64 f, .int .i64 n, .string s]] w (PkP (pkM 3 i d t x q R) E w) := by
  have P0 := Lib.hid (PR.start0 w 3 f n s)
  have T0 := Lib.hid (Hea.Tab3.keep ht P0.out.bw)
  have C := Lib.hid hC
  replace hT := Lib.hid hT
  clear hC ht
  go_enter Tryd.func17, Tryd.ntmps17
  go_wp2_with fail
  refine (hT.out _ T0.out).mono ?_
  rintro e w1 ⟨rfl, rfl⟩
  go_wp2_with fail
  refine (C.out _).mono ?_
  rintro e w2 ⟨rfl, b⟩
  have p := P0.out.ext b
  have TH := Lib.hid (blk_there p.r 3 4 (by decide))
  have p3 := p.sets 3 [.string t, .string x, .int .i64 q, .bool false]
  have P1 : PR w _ _ _ f n s (Pk.v (pkM 3 i d t x q R) noS noS) _ := ((p3.set 1 (.int .i64 i)).set 2 (.bool d)).set 6 (.bool R)
  have P := Lib.hid P1
  have d1 : ((w2.setCells (w.heap.size + 1) 3 [.string t, .string x, .int .i64 q, .bool false])).cell? ⟨w.heap.size + 1, 1, none⟩ = some (.int .i64 0) := p3.r.cell 1
  have d2 : ((w2.setCells (w.heap.size + 1) 3 [.string t, .string x, .int .i64 q, .bool false])).cell? ⟨w.heap.size + 1, 2, none⟩ = some (.bool false) := p3.r.cell 2
  have d6 : ((w2.setCells (w.heap.size + 1) 3 [.string t, .string x, .int .i64 q, .bool false])).cell? ⟨w.heap.size + 1, 6, none⟩ = some (.bool false) := p3.r.cell 6
  have fz := fun i => p3.r.fz i
  clear p b P0 C P1 p3 hT T0
  go_wp2_with (first
    | (refine wpList_store_mid rfl 27 (.tmp 54) (.tmp 51) rfl (w.heap.size + 1) 3 #[.string t, .string x, .int .i64 q, .bool false] rfl rfl TH.out size27 (one27 _ _ _ _) ?_; change wpList _ _ _ _ _ (w2.setCells (w.heap.size + 1) 3 [.string t, .string x, .int .i64 q, .bool false]); generalize (w2.setCells (w.heap.size + 1) 3 [.string t, .string x, .int .i64 q, .bool false]) = W4 at *)
    | (refine wpList_load_row rfl 33 (.tmp 2) rfl (w.heap.size + 1) rfl 33 (Pk.v (pkM 3 i d t x q R) noS noS) (0, 0) _ ?_ Tryd.underlying33 rfl (pk_size _ _ _) ?_; exact P.out.r)
    | (refine wpList_store_row rfl 33 (.tmp 2) (.tmp 100) rfl (w.heap.size + 1) (Pk.v (pkM 3 i d t x q R) noS noS) rfl rfl 33 (Pk.v (pkM 3 i d t x q R) noS noS) ?_ (pk_size _ _ _) rfl (pk_one _ _ _ rfl rfl) ?_; exact P.out.r; rw [P.out.same]))
  exact read_end (P := (pkM 3 i d t x q R)) (m := E) P.out.r rfl rfl P.out.bw (no_fis _ _) (no_ints _ _)
set_option maxRecDepth 100000 in
set_option maxHeartbeats 4000000 in
theorem read_4 (f n : Int) (s : ByteArray) (w : World) (hs : s.size ≤ 140737488351232) : Calls Tryd.prog 17 #[.agg #[.int .i64 4, .int .i64 f, .int .i64 n, .string s]] w (PkP (pkI 4 (Pub.ofF s).1) (Pub.ofF s).2 w) := by
  have P0 := Lib.hid (PR.start0 w 4 f n s)
  have C := Lib.hid (fun W => Pub.ofid_any s W (by omega))
  generalize Pub.ofF s = R at *
  obtain ⟨i, E⟩ := R
  dsimp only
  go_enter Tryd.func17, Tryd.ntmps17
  go_wp2_with fail
  refine (C.out _).mono ?_
  rintro e w2 ⟨rfl, b⟩
  have p := P0.out.ext b
  have P1 : PR w _ _ _ f n s (Pk.v (pkI 4 i) noS noS) _ := p.set 1 (.int .i64 i)
  have P := Lib.hid P1
  have d1 : w2.cell? ⟨w.heap.size + 1, 1, none⟩ = some (.int .i64 0) := p.r.cell 1
  have fz := fun i => p.r.fz i
  clear p b P0 C P1
  go_wp2_with (first
    | (refine wpList_load_row rfl 33 (.tmp 2) rfl (w.heap.size + 1) rfl 33 (Pk.v (pkI 4 i) noS noS) (0, 0) _ ?_ Tryd.underlying33 rfl (pk_size _ _ _) ?_; exact P.out.r)
    | (refine wpList_store_row rfl 33 (.tmp 2) (.tmp 100) rfl (w.heap.size + 1) (Pk.v (pkI 4 i) noS noS) rfl rfl 33 (Pk.v (pkI 4 i) noS noS) ?_ (pk_size _ _ _) rfl (pk_one _ _ _ rfl rfl) ?_; exact P.out.r; rw [P.out.same]))
  exact read_end (P := (pkI 4 i)) (m := E) P.out.r rfl rfl P.out.bw (no_fis _ _) (no_ints _ _)
set_option maxRecDepth 100000 in
set_option maxHeartbeats 4000000 in
theorem read_5 (f n : Int) (s : ByteArray) (w : World) (hs : s.size ≤ 140737488351232) : Calls Tryd.prog 17 #[.agg #[.int .i64 5, .int .i64 f, .int .i64 n, .string s]] w (PkP (pkI 5 (Pub.ofF s).1) (Pub.ofF s).2 w) := by
  have P0 := Lib.hid (PR.start0 w 5 f n s)
  have C := Lib.hid (fun W => Pub.ofid_any s W (by omega))
  generalize Pub.ofF s = R at *
  obtain ⟨i, E⟩ := R
  dsimp only
  go_enter Tryd.func17, Tryd.ntmps17
  go_wp2_with fail
  refine (C.out _).mono ?_
  rintro e w2 ⟨rfl, b⟩
  have p := P0.out.ext b
  have P1 : PR w _ _ _ f n s (Pk.v (pkI 5 i) noS noS) _ := p.set 1 (.int .i64 i)
  have P := Lib.hid P1
  have d1 : w2.cell? ⟨w.heap.size + 1, 1, none⟩ = some (.int .i64 0) := p.r.cell 1
  have fz := fun i => p.r.fz i
  clear p b P0 C P1
  go_wp2_with (first
    | (refine wpList_load_row rfl 33 (.tmp 2) rfl (w.heap.size + 1) rfl 33 (Pk.v (pkI 5 i) noS noS) (0, 0) _ ?_ Tryd.underlying33 rfl (pk_size _ _ _) ?_; exact P.out.r)
    | (refine wpList_store_row rfl 33 (.tmp 2) (.tmp 100) rfl (w.heap.size + 1) (Pk.v (pkI 5 i) noS noS) rfl rfl 33 (Pk.v (pkI 5 i) noS noS) ?_ (pk_size _ _ _) rfl (pk_one _ _ _ rfl rfl) ?_; exact P.out.r; rw [P.out.same]))
  exact read_end (P := (pkI 5 i)) (m := E) P.out.r rfl rfl P.out.bw (no_fis _ _) (no_ints _ _)
set_option maxRecDepth 100000 in
set_option maxHeartbeats 4000000 in
theorem read_6 (f n : Int) (s : ByteArray) (w : World) (hs : s.size ≤ 140737488351232) : Calls Tryd.prog 17 #[.agg #[.int .i64 6, .int .i64 f, .int .i64 n, .string s]] w (PkP (pkI 6 (Pub.ofF s).1) (Pub.ofF s).2 w) := by
  have P0 := Lib.hid (PR.start0 w 6 f n s)
  have C := Lib.hid (fun W => Pub.ofid_any s W (by omega))
  generalize Pub.ofF s = R at *
  obtain ⟨i, E⟩ := R
  dsimp only
  go_enter Tryd.func17, Tryd.ntmps17
  go_wp2_with fail
  refine (C.out _).mono ?_
  rintro e w2 ⟨rfl, b⟩
  have p := P0.out.ext b
  have P1 : PR w _ _ _ f n s (Pk.v (pkI 6 i) noS noS) _ := p.set 1 (.int .i64 i)
  have P := Lib.hid P1
  have d1 : w2.cell? ⟨w.heap.size + 1, 1, none⟩ = some (.int .i64 0) := p.r.cell 1
  have fz := fun i => p.r.fz i
  clear p b P0 C P1
  go_wp2_with (first
    | (refine wpList_load_row rfl 33 (.tmp 2) rfl (w.heap.size + 1) rfl 33 (Pk.v (pkI 6 i) noS noS) (0, 0) _ ?_ Tryd.underlying33 rfl (pk_size _ _ _) ?_; exact P.out.r)
    | (refine wpList_store_row rfl 33 (.tmp 2) (.tmp 100) rfl (w.heap.size + 1) (Pk.v (pkI 6 i) noS noS) rfl rfl 33 (Pk.v (pkI 6 i) noS noS) ?_ (pk_size _ _ _) rfl (pk_one _ _ _ rfl rfl) ?_; exact P.out.r; rw [P.out.same]))
  exact read_end (P := (pkI 6 i)) (m := E) P.out.r rfl rfl P.out.bw (no_fis _ _) (no_ints _ _)
set_option maxRecDepth 100000 in
set_option maxHeartbeats 4000000 in
theorem read_7 (f n : Int) (s : ByteArray) (w : World) (hs : s.size ≤ 140737488351232) : Calls Tryd.prog 17 #[.agg #[.int .i64 7, .int .i64 f, .int .i64 n, .string s]] w (PkP (pkI 7 (Pub.ofF s).1) (Pub.ofF s).2 w) := by
  have P0 := Lib.hid (PR.start0 w 7 f n s)
  have C := Lib.hid (fun W => Pub.ofid_any s W (by omega))
  generalize Pub.ofF s = R at *
  obtain ⟨i, E⟩ := R
  dsimp only
  go_enter Tryd.func17, Tryd.ntmps17
  go_wp2_with fail
  refine (C.out _).mono ?_
  rintro e w2 ⟨rfl, b⟩
  have p := P0.out.ext b
  have P1 : PR w _ _ _ f n s (Pk.v (pkI 7 i) noS noS) _ := p.set 1 (.int .i64 i)
  have P := Lib.hid P1
  have d1 : w2.cell? ⟨w.heap.size + 1, 1, none⟩ = some (.int .i64 0) := p.r.cell 1
  have fz := fun i => p.r.fz i
  clear p b P0 C P1
  go_wp2_with (first
    | (refine wpList_load_row rfl 33 (.tmp 2) rfl (w.heap.size + 1) rfl 33 (Pk.v (pkI 7 i) noS noS) (0, 0) _ ?_ Tryd.underlying33 rfl (pk_size _ _ _) ?_; exact P.out.r)
    | (refine wpList_store_row rfl 33 (.tmp 2) (.tmp 100) rfl (w.heap.size + 1) (Pk.v (pkI 7 i) noS noS) rfl rfl 33 (Pk.v (pkI 7 i) noS noS) ?_ (pk_size _ _ _) rfl (pk_one _ _ _ rfl rfl) ?_; exact P.out.r; rw [P.out.same]))
  exact read_end (P := (pkI 7 i)) (m := E) P.out.r rfl rfl P.out.bw (no_fis _ _) (no_ints _ _)
set_option maxRecDepth 100000 in
set_option maxHeartbeats 4000000 in
theorem read_11 (f n : Int) (s : ByteArray) (w : World) (hs : s.size ≤ 140737488351232) : Calls Tryd.prog 17 #[.agg #[.int .i64 11, .int .i64 f, .int .i64 n, .string s]] w (PkP (pkI 11 (Pub.ofF s).1) (Pub.ofF s).2 w) := by
  have P0 := Lib.hid (PR.start0 w 11 f n s)
  have C := Lib.hid (fun W => Pub.ofid_any s W (by omega))
  generalize Pub.ofF s = R at *
  obtain ⟨i, E⟩ := R
  dsimp only
  go_enter Tryd.func17, Tryd.ntmps17
  go_wp2_with fail
  refine (C.out _).mono ?_
  rintro e w2 ⟨rfl, b⟩
  have p := P0.out.ext b
  have P1 : PR w _ _ _ f n s (Pk.v (pkI 11 i) noS noS) _ := p.set 1 (.int .i64 i)
  have P := Lib.hid P1
  have d1 : w2.cell? ⟨w.heap.size + 1, 1, none⟩ = some (.int .i64 0) := p.r.cell 1
  have fz := fun i => p.r.fz i
  clear p b P0 C P1
  go_wp2_with (first
    | (refine wpList_load_row rfl 33 (.tmp 2) rfl (w.heap.size + 1) rfl 33 (Pk.v (pkI 11 i) noS noS) (0, 0) _ ?_ Tryd.underlying33 rfl (pk_size _ _ _) ?_; exact P.out.r)
    | (refine wpList_store_row rfl 33 (.tmp 2) (.tmp 100) rfl (w.heap.size + 1) (Pk.v (pkI 11 i) noS noS) rfl rfl 33 (Pk.v (pkI 11 i) noS noS) ?_ (pk_size _ _ _) rfl (pk_one _ _ _ rfl rfl) ?_; exact P.out.r; rw [P.out.same]))
  exact read_end (P := (pkI 11 i)) (m := E) P.out.r rfl rfl P.out.bw (no_fis _ _) (no_ints _ _)
set_option maxRecDepth 100000 in
set_option maxHeartbeats 4000000 in
theorem read_8 (f n : Int) (s : ByteArray) (w : World) (hs : s.size ≤ 140737488351232) : Calls Tryd.prog 17 #[.agg #[.int .i64 8, .int .i64 f, .int .i64 n, .string s]] w (PkP (pkF 8 (ofV (txtL s) false).1 (ofV (txtL s) false).2.1) (ofV (txtL s) false).2.2 w) := by
  have P0 := Lib.hid (PR.start0 w 8 f n s)
  have C := Lib.hid (fun W => of12_any s false W hs)
  generalize ofV (txtL s) false = R at *
  obtain ⟨i, l, E⟩ := R
  dsimp only
  go_enter Tryd.func17, Tryd.ntmps17
  go_wp2_with fail
  refine (C.out _).mono ?_
  rintro e w2 ⟨v, rfl, ⟨hv, hf⟩, b⟩
  have p := P0.out.ext b
  have P1 : PR w _ _ _ f n s (Pk.v (pkF 8 i l) v noS) _ := (p.set 1 (.int .i64 i)).set 22 v
  have P := Lib.hid P1
  have d1 : w2.cell? ⟨w.heap.size + 1, 1, none⟩ = some (.int .i64 0) := p.r.cell 1
  have d2 : w2.cell? ⟨w.heap.size + 1, 22, none⟩ = some (.slice none 0 0) := p.r.cell 22
  have fz := fun i => p.r.fz i
  have FF := Lib.hid (⟨(((But.refl (w.heap.size + 1) w2).set 1 (.int .i64 i)).set 22 v).fis hv hf (by simp), Fresh.le hf (by simp; omega)⟩ : FisAt _ _ _ ∧ Fresh w.heap.size v)
  have V1 := Lib.hid (fis_one hv)
  obtain ⟨va, vc, rfl, -, -⟩ := hv
  clear p b P0 C P1 hf
  go_wp2_with (first
    | (refine wpList_load_row rfl 33 (.tmp 2) rfl (w.heap.size + 1) rfl 33 (Pk.v (pkF 8 i l) (.slice va l.length vc) noS) (0, 0) _ ?_ Tryd.underlying33 rfl (pk_size _ _ _) ?_; exact P.out.r)
    | (refine wpList_store_row rfl 33 (.tmp 2) (.tmp 100) rfl (w.heap.size + 1) (Pk.v (pkF 8 i l) (.slice va l.length vc) noS) rfl rfl 33 (Pk.v (pkF 8 i l) (.slice va l.length vc) noS) ?_ (pk_size _ _ _) rfl (pk_one _ _ _ V1.out rfl) ?_; exact P.out.r; rw [P.out.same]))
  exact read_end (P := (pkF 8 i l)) (m := E) P.out.r rfl rfl P.out.bw FF.out (no_ints _ _)
set_option maxRecDepth 100000 in
set_option maxHeartbeats 4000000 in
theorem read_10 (f n : Int) (s : ByteArray) (w : World) (hs : s.size ≤ 140737488351232) : Calls Tryd.prog 17 #[.agg #[.int .i64 10, .int .i64 f, .int .i64 n, .string s]] w (PkP (pkF 10 (ofV (txtL s) true).1 (ofV (txtL s) true).2.1) (ofV (txtL s) true).2.2 w) := by
  have P0 := Lib.hid (PR.start0 w 10 f n s)
  have C := Lib.hid (fun W => of12_any s true W hs)
  generalize ofV (txtL s) true = R at *
  obtain ⟨i, l, E⟩ := R
  dsimp only
  go_enter Tryd.func17, Tryd.ntmps17
  go_wp2_with fail
  refine (C.out _).mono ?_
  rintro e w2 ⟨v, rfl, ⟨hv, hf⟩, b⟩
  have p := P0.out.ext b
  have P1 : PR w _ _ _ f n s (Pk.v (pkF 10 i l) v noS) _ := (p.set 1 (.int .i64 i)).set 22 v
  have P := Lib.hid P1
  have d1 : w2.cell? ⟨w.heap.size + 1, 1, none⟩ = some (.int .i64 0) := p.r.cell 1
  have d2 : w2.cell? ⟨w.heap.size + 1, 22, none⟩ = some (.slice none 0 0) := p.r.cell 22
  have fz := fun i => p.r.fz i
  have FF := Lib.hid (⟨(((But.refl (w.heap.size + 1) w2).set 1 (.int .i64 i)).set 22 v).fis hv hf (by simp), Fresh.le hf (by simp; omega)⟩ : FisAt _ _ _ ∧ Fresh w.heap.size v)
  have V1 := Lib.hid (fis_one hv)
  obtain ⟨va, vc, rfl, -, -⟩ := hv
  clear p b P0 C P1 hf
  go_wp2_with (first
    | (refine wpList_load_row rfl 33 (.tmp 2) rfl (w.heap.size + 1) rfl 33 (Pk.v (pkF 10 i l) (.slice va l.length vc) noS) (0, 0) _ ?_ Tryd.underlying33 rfl (pk_size _ _ _) ?_; exact P.out.r)
    | (refine wpList_store_row rfl 33 (.tmp 2) (.tmp 100) rfl (w.heap.size + 1) (Pk.v (pkF 10 i l) (.slice va l.length vc) noS) rfl rfl 33 (Pk.v (pkF 10 i l) (.slice va l.length vc) noS) ?_ (pk_size _ _ _) rfl (pk_one _ _ _ V1.out rfl) ?_; exact P.out.r; rw [P.out.same]))
  exact read_end (P := (pkF 10 i l)) (m := E) P.out.r rfl rfl P.out.bw FF.out (no_ints _ _)
set_option maxRecDepth 100000 in
set_option maxHeartbeats 4000000 in
theorem read_9 (f n : Int) (s : ByteArray) (w : World) (hs : s.size ≤ 140737488351232) : Calls Tryd.prog 17 #[.agg #[.int .i64 9, .int .i64 f, .int .i64 n, .string s]] w (PkP (pkS 9 (ofAckV (txtL s)).1 (ofAckV (txtL s)).2.1) (ofAckV (txtL s)).2.2 w) := by
  have P0 := Lib.hid (PR.start0 w 9 f n s)
  have C := Lib.hid (fun W => ofack17_any s W hs)
  generalize ofAckV (txtL s) = R at *
  obtain ⟨i, l, E⟩ := R
  dsimp only
  go_enter Tryd.func17, Tryd.ntmps17
  go_wp2_with fail
  refine (C.out _).mono ?_
  rintro e w2 ⟨v, rfl, ⟨hv, hf⟩, b⟩
  have p := P0.out.ext b
  have P1 : PR w _ _ _ f n s (Pk.v (pkS 9 i l) noS v) _ := (p.set 1 (.int .i64 i)).set 23 v
  have P := Lib.hid P1
  have d1 : w2.cell? ⟨w.heap.size + 1, 1, none⟩ = some (.int .i64 0) := p.r.cell 1
  have d2 : w2.cell? ⟨w.heap.size + 1, 23, none⟩ = some (.slice none 0 0) := p.r.cell 23
  have fz := fun i => p.r.fz i
  have FF := Lib.hid (⟨(((But.refl (w.heap.size + 1) w2).set 1 (.int .i64 i)).set 23 v).ints hv hf (by simp), Fresh.le hf (by simp; omega)⟩ : IntsAt _ _ _ ∧ Fresh w.heap.size v)
  have V1 := Lib.hid (ints_one hv)
  obtain ⟨va, vc, rfl, -, -⟩ := hv
  clear p b P0 C P1 hf
  go_wp2_with (first
    | (refine wpList_load_row rfl 33 (.tmp 2) rfl (w.heap.size + 1) rfl 33 (Pk.v (pkS 9 i l) noS (.slice va l.length vc)) (0, 0) _ ?_ Tryd.underlying33 rfl (pk_size _ _ _) ?_; exact P.out.r)
    | (refine wpList_store_row rfl 33 (.tmp 2) (.tmp 100) rfl (w.heap.size + 1) (Pk.v (pkS 9 i l) noS (.slice va l.length vc)) rfl rfl 33 (Pk.v (pkS 9 i l) noS (.slice va l.length vc)) ?_ (pk_size _ _ _) rfl (pk_one _ _ _ rfl V1.out) ?_; exact P.out.r; rw [P.out.same]))
  exact read_end (P := (pkS 9 i l)) (m := E) P.out.r rfl rfl P.out.bw (no_fis _ _) FF.out
set_option maxRecDepth 100000 in
set_option maxHeartbeats 4000000 in
theorem read_12z (f n : Int) (w : World) : Calls Tryd.prog 17 #[.agg #[.int .i64 12, .int .i64 f, .int .i64 n, .string ⟨#[]⟩]] w (PkP (pk0 12) 0 w) := by
  have P0 : PR w w.heap.size (w.heap.size + 1) 12 f n ⟨#[]⟩ #[.int .i64 12, .int .i64 0, .bool false, .string ⟨#[]⟩, .string ⟨#[]⟩, .int .i64 0, .bool false, .int .i64 0, .bool false, .int .i64 0, .string ⟨#[]⟩, .bool false, .string ⟨#[]⟩, .string ⟨#[]⟩, .int .i64 0, .bool false, .bool false, .string ⟨#[]⟩, .bool false, .string ⟨#[]⟩, .bool false, .int .i64 0, .slice none 0 0, .slice none 0 0] ((w.alloc (.cells #[.int .i64 12, .int .i64 f, .int .i64 n, .string ⟨#[]⟩] 25)).alloc (.cells #[.int .i64 12, .int .i64 0, .bool false, .string ⟨#[]⟩, .string ⟨#[]⟩, .int .i64 0, .bool false, .int .i64 0, .bool false, .int .i64 0, .string ⟨#[]⟩, .bool false, .string ⟨#[]⟩, .string ⟨#[]⟩, .int .i64 0, .bool false, .bool false, .string ⟨#[]⟩, .bool false, .string ⟨#[]⟩, .bool false, .int .i64 0, .slice none 0 0, .slice none 0 0] 33)) := PR.start0 w 12 f n ⟨#[]⟩
  have P := Lib.hid P0
  clear P0
  go_enter Tryd.func17, Tryd.ntmps17
  go_wp2_with (first
    | (refine wpList_load_row rfl 33 (.tmp 2) rfl (w.heap.size + 1) rfl 33 #[.int .i64 12, .int .i64 0, .bool false, .string ⟨#[]⟩, .string ⟨#[]⟩, .int .i64 0, .bool false, .int .i64 0, .bool false, .int .i64 0, .string ⟨#[]⟩, .bool false, .string ⟨#[]⟩, .string ⟨#[]⟩, .int .i64 0, .bool false, .bool false, .string ⟨#[]⟩, .bool false, .string ⟨#[]⟩, .bool false, .int .i64 0, .slice none 0 0, .slice none 0 0] (0, 0) _ ?_ Tryd.underlying33 rfl (pk_size (pk0 12) noS noS) ?_; exact P.out.r)
    | (refine wpList_store_row rfl 33 (.tmp 2) (.tmp 100) rfl (w.heap.size + 1) #[.int .i64 12, .int .i64 0, .bool false, .string ⟨#[]⟩, .string ⟨#[]⟩, .int .i64 0, .bool false, .int .i64 0, .bool false, .int .i64 0, .string ⟨#[]⟩, .bool false, .string ⟨#[]⟩, .string ⟨#[]⟩, .int .i64 0, .bool false, .bool false, .string ⟨#[]⟩, .bool false, .string ⟨#[]⟩, .bool false, .int .i64 0, .slice none 0 0, .slice none 0 0] rfl rfl 33 #[.int .i64 12, .int .i64 0, .bool false, .string ⟨#[]⟩, .string ⟨#[]⟩, .int .i64 0, .bool false, .int .i64 0, .bool false, .int .i64 0, .string ⟨#[]⟩, .bool false, .string ⟨#[]⟩, .string ⟨#[]⟩, .int .i64 0, .bool false, .bool false, .string ⟨#[]⟩, .bool false, .string ⟨#[]⟩, .bool false, .int .i64 0, .slice none 0 0, .slice none 0 0] ?_ (pk_size (pk0 12) noS noS) rfl (pk_one (pk0 12) noS noS rfl rfl) ?_; exact P.out.r; rw [P.out.same]))
  exact read_end (P := pk0 12) (m := 0) P.out.r rfl rfl P.out.bw (no_fis _ _) (no_ints _ _)
set_option maxRecDepth 100000 in
set_option maxHeartbeats 4000000 in
theorem read_12n (f n : Int) (s : ByteArray) (hz : s ≠ ⟨#[]⟩) (w : World) : Calls Tryd.prog 17 #[.agg #[.int .i64 12, .int .i64 f, .int .i64 n, .string s]] w (PkP (pk0 12) 4 w) := by
  have P0 : PR w w.heap.size (w.heap.size + 1) 12 f n s #[.int .i64 12, .int .i64 0, .bool false, .string ⟨#[]⟩, .string ⟨#[]⟩, .int .i64 0, .bool false, .int .i64 0, .bool false, .int .i64 0, .string ⟨#[]⟩, .bool false, .string ⟨#[]⟩, .string ⟨#[]⟩, .int .i64 0, .bool false, .bool false, .string ⟨#[]⟩, .bool false, .string ⟨#[]⟩, .bool false, .int .i64 0, .slice none 0 0, .slice none 0 0] ((w.alloc (.cells #[.int .i64 12, .int .i64 f, .int .i64 n, .string s] 25)).alloc (.cells #[.int .i64 12, .int .i64 0, .bool false, .string ⟨#[]⟩, .string ⟨#[]⟩, .int .i64 0, .bool false, .int .i64 0, .bool false, .int .i64 0, .string ⟨#[]⟩, .bool false, .string ⟨#[]⟩, .string ⟨#[]⟩, .int .i64 0, .bool false, .bool false, .string ⟨#[]⟩, .bool false, .string ⟨#[]⟩, .bool false, .int .i64 0, .slice none 0 0, .slice none 0 0] 33)) := PR.start0 w 12 f n s
  have P := Lib.hid P0
  clear P0
  have hz' : (!s.toList.isEmpty) = true := by
    rw [ByteArray.toList_eq]
    cases hl : s.data.toList with
    | nil => exact absurd (ByteArray.ext (Array.toList_inj.1 hl)) hz
    | cons a b => rfl
  replace hz := Lib.hid hz
  go_enter Tryd.func17, Tryd.ntmps17
  go_wp2_with (first
    | (refine wpList_load_row rfl 33 (.tmp 2) rfl (w.heap.size + 1) rfl 33 #[.int .i64 12, .int .i64 0, .bool false, .string ⟨#[]⟩, .string ⟨#[]⟩, .int .i64 0, .bool false, .int .i64 0, .bool false, .int .i64 0, .string ⟨#[]⟩, .bool false, .string ⟨#[]⟩, .string ⟨#[]⟩, .int .i64 0, .bool false, .bool false, .string ⟨#[]⟩, .bool false, .string ⟨#[]⟩, .bool false, .int .i64 0, .slice none 0 0, .slice none 0 0] (0, 0) _ ?_ Tryd.underlying33 rfl (pk_size (pk0 12) noS noS) ?_; exact P.out.r)
    | (refine wpList_store_row rfl 33 (.tmp 2) (.tmp 100) rfl (w.heap.size + 1) #[.int .i64 12, .int .i64 0, .bool false, .string ⟨#[]⟩, .string ⟨#[]⟩, .int .i64 0, .bool false, .int .i64 0, .bool false, .int .i64 0, .string ⟨#[]⟩, .bool false, .string ⟨#[]⟩, .string ⟨#[]⟩, .int .i64 0, .bool false, .bool false, .string ⟨#[]⟩, .bool false, .string ⟨#[]⟩, .bool false, .int .i64 0, .slice none 0 0, .slice none 0 0] rfl rfl 33 #[.int .i64 12, .int .i64 0, .bool false, .string ⟨#[]⟩, .string ⟨#[]⟩, .int .i64 0, .bool false, .int .i64 0, .bool false, .int .i64 0, .string ⟨#[]⟩, .bool false, .string ⟨#[]⟩, .string ⟨#[]⟩, .int .i64 0, .bool false, .bool false, .string ⟨#[]⟩, .bool false, .string ⟨#[]⟩, .bool false, .int .i64 0, .slice none 0 0, .slice none 0 0] ?_ (pk_size (pk0 12) noS noS) rfl (pk_one (pk0 12) noS noS rfl rfl) ?_; exact P.out.r; rw [P.out.same]))
  exact read_end (P := pk0 12) (m := 4) P.out.r rfl rfl P.out.bw (no_fis _ _) (no_ints _ _)
set_option maxRecDepth 100000 in
set_option maxHeartbeats 4000000 in
theorem read_13z (f n : Int) (w : World) : Calls Tryd.prog 17 #[.agg #[.int .i64 13, .int .i64 f, .int .i64 n, .string ⟨#[]⟩]] w (PkP (pk0 13) 0 w) := by
  have P0 : PR w w.heap.size (w.heap.size + 1) 13 f n ⟨#[]⟩ #[.int .i64 13, .int .i64 0, .bool false, .string ⟨#[]⟩, .string ⟨#[]⟩, .int .i64 0, .bool false, .int .i64 0, .bool false, .int .i64 0, .string ⟨#[]⟩, .bool false, .string ⟨#[]⟩, .string ⟨#[]⟩, .int .i64 0, .bool false, .bool false, .string ⟨#[]⟩, .bool false, .string ⟨#[]⟩, .bool false, .int .i64 0, .slice none 0 0, .slice none 0 0] ((w.alloc (.cells #[.int .i64 13, .int .i64 f, .int .i64 n, .string ⟨#[]⟩] 25)).alloc (.cells #[.int .i64 13, .int .i64 0, .bool false, .string ⟨#[]⟩, .string ⟨#[]⟩, .int .i64 0, .bool false, .int .i64 0, .bool false, .int .i64 0, .string ⟨#[]⟩, .bool false, .string ⟨#[]⟩, .string ⟨#[]⟩, .int .i64 0, .bool false, .bool false, .string ⟨#[]⟩, .bool false, .string ⟨#[]⟩, .bool false, .int .i64 0, .slice none 0 0, .slice none 0 0] 33)) := PR.start0 w 13 f n ⟨#[]⟩
  have P := Lib.hid P0
  clear P0
  go_enter Tryd.func17, Tryd.ntmps17
  go_wp2_with (first
    | (refine wpList_load_row rfl 33 (.tmp 2) rfl (w.heap.size + 1) rfl 33 #[.int .i64 13, .int .i64 0, .bool false, .string ⟨#[]⟩, .string ⟨#[]⟩, .int .i64 0, .bool false, .int .i64 0, .bool false, .int .i64 0, .string ⟨#[]⟩, .bool false, .string ⟨#[]⟩, .string ⟨#[]⟩, .int .i64 0, .bool false, .bool false, .string ⟨#[]⟩, .bool false, .string ⟨#[]⟩, .bool false, .int .i64 0, .slice none 0 0, .slice none 0 0] (0, 0) _ ?_ Tryd.underlying33 rfl (pk_size (pk0 13) noS noS) ?_; exact P.out.r)
    | (refine wpList_store_row rfl 33 (.tmp 2) (.tmp 100) rfl (w.heap.size + 1) #[.int .i64 13, .int .i64 0, .bool false, .string ⟨#[]⟩, .string ⟨#[]⟩, .int .i64 0, .bool false, .int .i64 0, .bool false, .int .i64 0, .string ⟨#[]⟩, .bool false, .string ⟨#[]⟩, .string ⟨#[]⟩, .int .i64 0, .bool false, .bool false, .string ⟨#[]⟩, .bool false, .string ⟨#[]⟩, .bool false, .int .i64 0, .slice none 0 0, .slice none 0 0] rfl rfl 33 #[.int .i64 13, .int .i64 0, .bool false, .string ⟨#[]⟩, .string ⟨#[]⟩, .int .i64 0, .bool false, .int .i64 0, .bool false, .int .i64 0, .string ⟨#[]⟩, .bool false, .string ⟨#[]⟩, .string ⟨#[]⟩, .int .i64 0, .bool false, .bool false, .string ⟨#[]⟩, .bool false, .string ⟨#[]⟩, .bool false, .int .i64 0, .slice none 0 0, .slice none 0 0] ?_ (pk_size (pk0 13) noS noS) rfl (pk_one (pk0 13) noS noS rfl rfl) ?_; exact P.out.r; rw [P.out.same]))
  exact read_end (P := pk0 13) (m := 0) P.out.r rfl rfl P.out.bw (no_fis _ _) (no_ints _ _)
set_option maxRecDepth 100000 in
set_option maxHeartbeats 4000000 in
theorem read_13n (f n : Int) (s : ByteArray) (hz : s ≠ ⟨#[]⟩) (w : World) : Calls Tryd.prog 17 #[.agg #[.int .i64 13, .int .i64 f, .int .i64 n, .string s]] w (PkP (pk0 13) 4 w) := by
  have P0 : PR w w.heap.size (w.heap.size + 1) 13 f n s #[.int .i64 13, .int .i64 0, .bool false, .string ⟨#[]⟩, .string ⟨#[]⟩, .int .i64 0, .bool false, .int .i64 0, .bool false, .int .i64 0, .string ⟨#[]⟩, .bool false, .string ⟨#[]⟩, .string ⟨#[]⟩, .int .i64 0, .bool false, .bool false, .string ⟨#[]⟩, .bool false, .string ⟨#[]⟩, .bool false, .int .i64 0, .slice none 0 0, .slice none 0 0] ((w.alloc (.cells #[.int .i64 13, .int .i64 f, .int .i64 n, .string s] 25)).alloc (.cells #[.int .i64 13, .int .i64 0, .bool false, .string ⟨#[]⟩, .string ⟨#[]⟩, .int .i64 0, .bool false, .int .i64 0, .bool false, .int .i64 0, .string ⟨#[]⟩, .bool false, .string ⟨#[]⟩, .string ⟨#[]⟩, .int .i64 0, .bool false, .bool false, .string ⟨#[]⟩, .bool false, .string ⟨#[]⟩, .bool false, .int .i64 0, .slice none 0 0, .slice none 0 0] 33)) := PR.start0 w 13 f n s
  have P := Lib.hid P0
  clear P0
  have hz' : (!s.toList.isEmpty) = true := by
    rw [ByteArray.toList_eq]
    cases hl : s.data.toList with
    | nil => exact absurd (ByteArray.ext (Array.toList_inj.1 hl)) hz
    | cons a b => rfl
  replace hz := Lib.hid hz
  go_enter Tryd.func17, Tryd.ntmps17
  go_wp2_with (first
    | (refine wpList_load_row rfl 33 (.tmp 2) rfl (w.heap.size + 1) rfl 33 #[.int .i64 13, .int .i64 0, .bool false, .string ⟨#[]⟩, .string ⟨#[]⟩, .int .i64 0, .bool false, .int .i64 0, .bool false, .int .i64 0, .string ⟨#[]⟩, .bool false, .string ⟨#[]⟩, .string ⟨#[]⟩, .int .i64 0, .bool false, .bool false, .string ⟨#[]⟩, .bool false, .string ⟨#[]⟩, .bool false, .int .i64 0, .slice none 0 0, .slice none 0 0] (0, 0) _ ?_ Tryd.underlying33 rfl (pk_size (pk0 13) noS noS) ?_; exact P.out.r)
    | (refine wpList_store_row rfl 33 (.tmp 2) (.tmp 100) rfl (w.heap.size + 1) #[.int .i64 13, .int .i64 0, .bool false, .string ⟨#[]⟩, .string ⟨#[]⟩, .int .i64 0, .bool false, .int .i64 0, .bool false, .int .i64 0, .string ⟨#[]⟩, .bool false, .string ⟨#[]⟩, .string ⟨#[]⟩, .int .i64 0, .bool false, .bool false, .string ⟨#[]⟩, .bool false, .string ⟨#[]⟩, .bool false, .int .i64 0, .slice none 0 0, .slice none 0 0] rfl rfl 33 #[.int .i64 13, .int .i64 0, .bool false, .string ⟨#[]⟩, .string ⟨#[]⟩, .int .i64 0, .bool false, .int .i64 0, .bool false, .int .i64 0, .string ⟨#[]⟩, .bool false, .string ⟨#[]⟩, .string ⟨#[]⟩, .int .i64 0, .bool false, .bool false, .string ⟨#[]⟩, .bool false, .string ⟨#[]⟩, .bool false, .int .i64 0, .slice none 0 0, .slice none 0 0] ?_ (pk_size (pk0 13) noS noS) rfl (pk_one (pk0 13) noS noS rfl rfl) ?_; exact P.out.r; rw [P.out.same]))
  exact read_end (P := pk0 13) (m := 4) P.out.r rfl rfl P.out.bw (no_fis _ _) (no_ints _ _)
set_option maxRecDepth 100000 in
set_option maxHeartbeats 4000000 in
theorem read_14z (f n : Int) (w : World) : Calls Tryd.prog 17 #[.agg #[.int .i64 14, .int .i64 f, .int .i64 n, .string ⟨#[]⟩]] w (PkP (pk0 14) 0 w) := by
  have P0 : PR w w.heap.size (w.heap.size + 1) 14 f n ⟨#[]⟩ #[.int .i64 14, .int .i64 0, .bool false, .string ⟨#[]⟩, .string ⟨#[]⟩, .int .i64 0, .bool false, .int .i64 0, .bool false, .int .i64 0, .string ⟨#[]⟩, .bool false, .string ⟨#[]⟩, .string ⟨#[]⟩, .int .i64 0, .bool false, .bool false, .string ⟨#[]⟩, .bool false, .string ⟨#[]⟩, .bool false, .int .i64 0, .slice none 0 0, .slice none 0 0] ((w.alloc (.cells #[.int .i64 14, .int .i64 f, .int .i64 n, .string ⟨#[]⟩] 25)).alloc (.cells #[.int .i64 14, .int .i64 0, .bool false, .string ⟨#[]⟩, .string ⟨#[]⟩, .int .i64 0, .bool false, .int .i64 0, .bool false, .int .i64 0, .string ⟨#[]⟩, .bool false, .string ⟨#[]⟩, .string ⟨#[]⟩, .int .i64 0, .bool false, .bool false, .string ⟨#[]⟩, .bool false, .string ⟨#[]⟩, .bool false, .int .i64 0, .slice none 0 0, .slice none 0 0] 33)) := PR.start0 w 14 f n ⟨#[]⟩
  have P := Lib.hid P0
  clear P0
  go_enter Tryd.func17, Tryd.ntmps17
  go_wp2_with (first
    | (refine wpList_load_row rfl 33 (.tmp 2) rfl (w.heap.size + 1) rfl 33 #[.int .i64 14, .int .i64 0, .bool false, .string ⟨#[]⟩, .string ⟨#[]⟩, .int .i64 0, .bool false, .int .i64 0, .bool false, .int .i64 0, .string ⟨#[]⟩, .bool false, .string ⟨#[]⟩, .string ⟨#[]⟩, .int .i64 0, .bool false, .bool false, .string ⟨#[]⟩, .bool false, .string ⟨#[]⟩, .bool false, .int .i64 0, .slice none 0 0, .slice none 0 0] (0, 0) _ ?_ Tryd.underlying33 rfl (pk_size (pk0 14) noS noS) ?_; exact P.out.r)
    | (refine wpList_store_row rfl 33 (.tmp 2) (.tmp 100) rfl (w.heap.size + 1) #[.int .i64 14, .int .i64 0, .bool false, .string ⟨#[]⟩, .string ⟨#[]⟩, .int .i64 0, .bool false, .int .i64 0, .bool false, .int .i64 0, .string ⟨#[]⟩, .bool false, .string ⟨#[]⟩, .string ⟨#[]⟩, .int .i64 0, .bool false, .bool false, .string ⟨#[]⟩, .bool false, .string ⟨#[]⟩, .bool false, .int .i64 0, .slice none 0 0, .slice none 0 0] rfl rfl 33 #[.int .i64 14, .int .i64 0, .bool false, .string ⟨#[]⟩, .string ⟨#[]⟩, .int .i64 0, .bool false, .int .i64 0, .bool false, .int .i64 0, .string ⟨#[]⟩, .bool false, .string ⟨#[]⟩, .string ⟨#[]⟩, .int .i64 0, .bool false, .bool false, .string ⟨#[]⟩, .bool false, .string ⟨#[]⟩, .bool false, .int .i64 0, .slice none 0 0, .slice none 0 0] ?_ (pk_size (pk0 14) noS noS) rfl (pk_one (pk0 14) noS noS rfl rfl) ?_; exact P.out.r; rw [P.out.same]))
  exact read_end (P := pk0 14) (m := 0) P.out.r rfl rfl P.out.bw (no_fis _ _) (no_ints _ _)
set_option maxRecDepth 100000 in
set_option maxHeartbeats 4000000 in
theorem read_14n (f n : Int) (s : ByteArray) (hz : s ≠ ⟨#[]⟩) (w : World) : Calls Tryd.prog 17 #[.agg #[.int .i64 14, .int .i64 f, .int .i64 n, .string s]] w (PkP (pk0 14) 4 w) := by
  have P0 : PR w w.heap.size (w.heap.size + 1) 14 f n s #[.int .i64 14, .int .i64 0, .bool false, .string ⟨#[]⟩, .string ⟨#[]⟩, .int .i64 0, .bool false, .int .i64 0, .bool false, .int .i64 0, .string ⟨#[]⟩, .bool false, .string ⟨#[]⟩, .string ⟨#[]⟩, .int .i64 0, .bool false, .bool false, .string ⟨#[]⟩, .bool false, .string ⟨#[]⟩, .bool false, .int .i64 0, .slice none 0 0, .slice none 0 0] ((w.alloc (.cells #[.int .i64 14, .int .i64 f, .int .i64 n, .string s] 25)).alloc (.cells #[.int .i64 14, .int .i64 0, .bool false, .string ⟨#[]⟩, .string ⟨#[]⟩, .int .i64 0, .bool false, .int .i64 0, .bool false, .int .i64 0, .string ⟨#[]⟩, .bool false, .string ⟨#[]⟩, .string ⟨#[]⟩, .int .i64 0, .bool false, .bool false, .string ⟨#[]⟩, .bool false, .string ⟨#[]⟩, .bool false, .int .i64 0, .slice none 0 0, .slice none 0 0] 33)) := PR.start0 w 14 f n s
  have P := Lib.hid P0
  clear P0
  have hz' : (!s.toList.isEmpty) = true := by
    rw [ByteArray.toList_eq]
    cases hl : s.data.toList with
    | nil => exact absurd (ByteArray.ext (Array.toList_inj.1 hl)) hz
    | cons a b => rfl
  replace hz := Lib.hid hz
  go_enter Tryd.func17, Tryd.ntmps17
  go_wp2_with (first
    | (refine wpList_load_row rfl 33 (.tmp 2) rfl (w.heap.size + 1) rfl 33 #[.int .i64 14, .int .i64 0, .bool false, .string ⟨#[]⟩, .string ⟨#[]⟩, .int .i64 0, .bool false, .int .i64 0, .bool false, .int .i64 0, .string ⟨#[]⟩, .bool false, .string ⟨#[]⟩, .string ⟨#[]⟩, .int .i64 0, .bool false, .bool false, .string ⟨#[]⟩, .bool false, .string ⟨#[]⟩, .bool false, .int .i64 0, .slice none 0 0, .slice none 0 0] (0, 0) _ ?_ Tryd.underlying33 rfl (pk_size (pk0 14) noS noS) ?_; exact P.out.r)
    | (refine wpList_store_row rfl 33 (.tmp 2) (.tmp 100) rfl (w.heap.size + 1) #[.int .i64 14, .int .i64 0, .bool false, .string ⟨#[]⟩, .string ⟨#[]⟩, .int .i64 0, .bool false, .int .i64 0, .bool false, .int .i64 0, .string ⟨#[]⟩, .bool false, .string ⟨#[]⟩, .string ⟨#[]⟩, .int .i64 0, .bool false, .bool false, .string ⟨#[]⟩, .bool false, .string ⟨#[]⟩, .bool false, .int .i64 0, .slice none 0 0, .slice none 0 0] rfl rfl 33 #[.int .i64 14, .int .i64 0, .bool false, .string ⟨#[]⟩, .string ⟨#[]⟩, .int .i64 0, .bool false, .int .i64 0, .bool false, .int .i64 0, .string ⟨#[]⟩, .bool false, .string ⟨#[]⟩, .string ⟨#[]⟩, .int .i64 0, .bool false, .bool false, .string ⟨#[]⟩, .bool false, .string ⟨#[]⟩, .bool false, .int .i64 0, .slice none 0 0, .slice none 0 0] ?_ (pk_size (pk0 14) noS noS) rfl (pk_one (pk0 14) noS noS rfl rfl) ?_; exact P.out.r; rw [P.out.same]))
  exact read_end (P := pk0 14) (m := 4) P.out.r rfl rfl P.out.bw (no_fis _ _) (no_ints _ _)
end Go.Proofs.YtmpklaokgogigaaDoor.Pac

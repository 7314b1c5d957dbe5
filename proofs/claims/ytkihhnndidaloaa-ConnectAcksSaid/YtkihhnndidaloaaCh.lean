/-
  LAYER 13: who comes, laid by the document's answer.
-/
import Derived.Test.YtkihhnndidaloaaCg
import Derived.Deep.RegionHeld3
namespace Go.Proofs.Ytkihhnndidaloaa
open Go.RowKit

def hd (f n : Nat) : List Nat := [0, 4, 77, 81, 84, 84, 4, f, n / 256, n % 256]
theorem hd_eq (f n : Nat) : (([] ++ [0, 4, 77, 81, 84, 84]) ++ [4, f]) ++ [n / 256, n % 256] = hd f n := rfl
theorem st_ok (l m : List Nat) (E : Int) : st (l, 0) (m, E) = (l ++ m, E) := by simp [st]
theorem st_er (l : List Nat) (E : Int) (P : List Nat × Int) (h : E ≠ 0) : st (l, E) P = (l, E) := by simp [st, h]
theorem fin_er (l : List Nat) (E : Int) (h : E ≠ 0) : fin (l, E) = ([], E) := by simp [fin, h]
theorem fin_long (l : List Nat) (h : 4096 < l.length) : fin (l, 0) = ([], 3) := by simp [fin, h]
theorem fin_ok (l : List Nat) (h : ¬ 4096 < l.length) : fin (l, 0) = (l, 0) := by unfold fin; rw [if_neg (by simp), if_neg h]
theorem u8_nat (n : Nat) (h : n < 256) : IntKind.u8.wrap (n : Int) = (n : Int) := by
  have := IntKind.wrap_u8 (n : Int)
  rw [this]; omega
theorem w_quo (n : Nat) (h : n ≤ 65535) : IntKind.u8.wrap (IntKind.i64.wrap ((n : Int) / 256)) = (n : Int) / 256 := by
  rw [IntWalk.i64_in _ (by omega), show (n : Int) / 256 = ((n / 256 : Nat) : Int) by omega, u8_nat _ (by omega)]
theorem w_rem (n : Nat) (h : n ≤ 65535) : IntKind.u8.wrap ((n : Int).tmod 256) = (n : Int) % 256 := by
  rw [show (n : Int).tmod 256 = ((n % 256 : Nat) : Int) by rw [Int.tmod_eq_emod_of_nonneg (by omega)]; omega, u8_nat _ (by omega)]; omega
theorem lit_own (w : World) (f n : Nat) : (w.alloc (.cells #[.int .u8 0, .int .u8 4, .int .u8 77, .int .u8 81, .int .u8 84, .int .u8 84, .int .u8 4, .int .u8 (f : Nat), .int .u8 ((n : Int) / 256), .int .u8 ((n : Int) % 256)] 5)).ownsRow w.heap.size 5 1 (.slice (some ⟨w.heap.size, 0, none⟩) 10 10) (hd f n).length (bl (hd f n)) := by
  have := World.ownsRow_lit (base := w.heap.size) (e := 5) (size := 1) w #[.int .u8 0, .int .u8 4, .int .u8 77, .int .u8 81, .int .u8 84, .int .u8 84, .int .u8 4, .int .u8 (f : Nat), .int .u8 ((n : Int) / 256), .int .u8 ((n : Int) % 256)] 10 (by simp) (by unfold maxLen; omega) rfl
  simpa [bl, hd] using this
set_option maxHeartbeats 4000000 in
set_option maxRecDepth 100000 in
theorem rcput_ttt (cl : Bool) (n : Nat) (id : ByteArray) (wt : ByteArray) (wx : ByteArray) (q : Nat) (rb : Bool) (u : ByteArray) (p : ByteArray) (w : World) (hn : n ≤ 65535) (hq : q < 3) (hwx : wx.size ≤ 140737488351232) (hp : p.size ≤ 140737488351232) (h0 : conE 4 (n : Nat) true wt wx (q : Nat) rb true u true p = 0) :
    Calls Try.prog 24 #[con 4 cl (n : Nat) id true wt wx (q : Nat) rb true u true p] w (Numb (fin (gat [([0, 4, 77, 81, 84, 84], 0), ([4, fl q cl true rb true true 5], 0), ([n / 256, n % 256], 0), (uL id, textE id), (uL wt, textE wt), (rL wx, laidE wx), (uL u, textE u), (rL p, laidE p)])).1 (fin (gat [([0, 4, 77, 81, 84, 84], 0), ([4, fl q cl true rb true true 5], 0), ([n / 256, n % 256], 0), (uL id, textE id), (uL wt, textE wt), (rL wx, laidE wx), (uL u, textE u), (rL p, laidE p)])).2 w) := by
  have R := fun W => wrongs59 4 cl n id true wt wx q rb true u true p W
  rw [h0] at R
  replace R := Lib.hid R
  clear h0
  have F := fun W => rflags_w 4 cl n id wt wx q rb true u true p W hq
  have f256 := fl_lt ⟨q, hq⟩ cl true rb true true ⟨5, by decide⟩
  simp only at f256
  generalize gf : fl q cl true rb true true 5 = f at *
  replace gf := Lib.hid gf
  replace F := Lib.hid F
  have hn' : (n : Int) ≤ 65535 := by omega
  have kf := u8_nat f f256
  have kq := w_quo n hn
  have kr := w_rem n hn
  have Did := fun W => u_rput id W
  obtain ⟨eid, gid⟩ : ∃ E, E = textE id := ⟨_, rfl⟩
  rw [← gid] at Did
  replace Did := Lib.hid Did
  have lid := uL_len id
  have Dwt := fun W => u_rput wt W
  obtain ⟨ewt, gwt⟩ : ∃ E, E = textE wt := ⟨_, rfl⟩
  rw [← gwt] at Dwt
  replace Dwt := Lib.hid Dwt
  have lwt := uL_len wt
  have Dwx := fun W => u_rraw wx W (by omega)
  obtain ⟨ewx, gwx⟩ : ∃ E, E = laidE wx := ⟨_, rfl⟩
  rw [← gwx] at Dwx
  replace Dwx := Lib.hid Dwx
  have lwx := rL_len wx
  have Du := fun W => u_rput u W
  obtain ⟨eu, gu⟩ : ∃ E, E = textE u := ⟨_, rfl⟩
  rw [← gu] at Du
  replace Du := Lib.hid Du
  have lu := uL_len u
  have Dp := fun W => u_rraw p W (by omega)
  obtain ⟨ep, gp⟩ : ∃ E, E = laidE p := ⟨_, rfl⟩
  rw [← gp] at Dp
  replace Dp := Lib.hid Dp
  have lp := rL_len p
  have X0 : (h : eid ≠ 0) → fin (gat [([0, 4, 77, 81, 84, 84], 0), ([4, f], 0), ([n / 256, n % 256], 0), (uL id, textE id), (uL wt, textE wt), (rL wx, laidE wx), (uL u, textE u), (rL p, laidE p)]) = ([], eid) := by
    intro h
    unfold gat; simp only [List.foldl]; rw [st_ok, st_ok, st_ok, hd_eq, st_ok, ← gid, st_er _ _ _ h, st_er _ _ _ h, st_er _ _ _ h, st_er _ _ _ h]
    exact fin_er _ _ h
  have X1 : (h0 : eid = 0) → (h : ewt ≠ 0) → fin (gat [([0, 4, 77, 81, 84, 84], 0), ([4, f], 0), ([n / 256, n % 256], 0), (uL id, textE id), (uL wt, textE wt), (rL wx, laidE wx), (uL u, textE u), (rL p, laidE p)]) = ([], ewt) := by
    intro h0 h
    unfold gat; simp only [List.foldl]; rw [st_ok, st_ok, st_ok, hd_eq, st_ok, ← gid, h0, st_ok, ← gwt, st_er _ _ _ h, st_er _ _ _ h, st_er _ _ _ h]
    exact fin_er _ _ h
  have X2 : (h0 : eid = 0) → (h1 : ewt = 0) → (h : ewx ≠ 0) → fin (gat [([0, 4, 77, 81, 84, 84], 0), ([4, f], 0), ([n / 256, n % 256], 0), (uL id, textE id), (uL wt, textE wt), (rL wx, laidE wx), (uL u, textE u), (rL p, laidE p)]) = ([], ewx) := by
    intro h0 h1 h
    unfold gat; simp only [List.foldl]; rw [st_ok, st_ok, st_ok, hd_eq, st_ok, ← gid, h0, st_ok, ← gwt, h1, st_ok, ← gwx, st_er _ _ _ h, st_er _ _ _ h]
    exact fin_er _ _ h
  have X3 : (h0 : eid = 0) → (h1 : ewt = 0) → (h2 : ewx = 0) → (h : eu ≠ 0) → fin (gat [([0, 4, 77, 81, 84, 84], 0), ([4, f], 0), ([n / 256, n % 256], 0), (uL id, textE id), (uL wt, textE wt), (rL wx, laidE wx), (uL u, textE u), (rL p, laidE p)]) = ([], eu) := by
    intro h0 h1 h2 h
    unfold gat; simp only [List.foldl]; rw [st_ok, st_ok, st_ok, hd_eq, st_ok, ← gid, h0, st_ok, ← gwt, h1, st_ok, ← gwx, h2, st_ok, ← gu, st_er _ _ _ h]
    exact fin_er _ _ h
  have X4 : (h0 : eid = 0) → (h1 : ewt = 0) → (h2 : ewx = 0) → (h3 : eu = 0) → (h : ep ≠ 0) → fin (gat [([0, 4, 77, 81, 84, 84], 0), ([4, f], 0), ([n / 256, n % 256], 0), (uL id, textE id), (uL wt, textE wt), (rL wx, laidE wx), (uL u, textE u), (rL p, laidE p)]) = ([], ep) := by
    intro h0 h1 h2 h3 h
    unfold gat; simp only [List.foldl]; rw [st_ok, st_ok, st_ok, hd_eq, st_ok, ← gid, h0, st_ok, ← gwt, h1, st_ok, ← gwx, h2, st_ok, ← gu, h3, st_ok, ← gp]
    exact fin_er _ _ h
  have XX : (h0 : eid = 0) → (h1 : ewt = 0) → (h2 : ewx = 0) → (h3 : eu = 0) → (h4 : ep = 0) →  gat [([0, 4, 77, 81, 84, 84], 0), ([4, f], 0), ([n / 256, n % 256], 0), (uL id, textE id), (uL wt, textE wt), (rL wx, laidE wx), (uL u, textE u), (rL p, laidE p)] = (hd f n ++ uL id ++ uL wt ++ rL wx ++ uL u ++ rL p, 0) := by
    intro h0 h1 h2 h3 h4
    unfold gat; simp only [List.foldl]; rw [st_ok, st_ok, st_ok, hd_eq, st_ok, ← gid, h0, st_ok, ← gwt, h1, st_ok, ← gwx, h2, st_ok, ← gu, h3, st_ok, ← gp, h4]
  replace X0 := Lib.hid X0
  replace X1 := Lib.hid X1
  replace X2 := Lib.hid X2
  replace X3 := Lib.hid X3
  replace X4 := Lib.hid X4
  replace XX := Lib.hid XX
  replace gid := Lib.hid gid
  replace gwt := Lib.hid gwt
  replace gwx := Lib.hid gwx
  replace gu := Lib.hid gu
  replace gp := Lib.hid gp
  unfold con at R F ⊢
  have k0 : Blk (w.alloc (.cells #[.int .i64 4, .bool cl, .int .i64 (n : Nat), .string id, .bool true, .string wt, .string wx, .int .i64 (q : Nat), .bool rb, .bool true, .string u, .bool true, .string p] 45)) w.heap.size 45 _ := Blk.new w 45 _
  have b0 := ext_alloc w (.cells #[.int .i64 4, .bool cl, .int .i64 (n : Nat), .string id, .bool true, .string wt, .string wx, .int .i64 (q : Nat), .bool rb, .bool true, .string u, .bool true, .string p] 45)
  replace b0 := Lib.hid b0
  replace k0 := Lib.hid k0
  obtain ⟨i0, hi, hz0, hz1, hz2⟩ := info_parts info5
  go_enter Try.func24, Try.ntmps24
  go_wp2_with fail
  refine (R.out _).mono ?_
  rintro e w1 ⟨rfl, b1⟩
  have k1 := k0.out.ext b1
  have B1 : Below w.heap.size w w1 := ext_trans b0.out b1
  have z1 : w.heap.size < w1.heap.size := by have := b1.size; simp at this; omega
  have c0 : w1.cell? ⟨w.heap.size, 0, none⟩ = some (.int .i64 4) := (k1.cell 0).trans rfl
  have c1 : w1.cell? ⟨w.heap.size, 1, none⟩ = some (.bool cl) := (k1.cell 1).trans rfl
  have c2 : w1.cell? ⟨w.heap.size, 2, none⟩ = some (.int .i64 (n : Nat)) := (k1.cell 2).trans rfl
  have c3 : w1.cell? ⟨w.heap.size, 3, none⟩ = some (.string id) := (k1.cell 3).trans rfl
  have c4 : w1.cell? ⟨w.heap.size, 4, none⟩ = some (.bool true) := (k1.cell 4).trans rfl
  have c5 : w1.cell? ⟨w.heap.size, 5, none⟩ = some (.string wt) := (k1.cell 5).trans rfl
  have c6 : w1.cell? ⟨w.heap.size, 6, none⟩ = some (.string wx) := (k1.cell 6).trans rfl
  have c7 : w1.cell? ⟨w.heap.size, 7, none⟩ = some (.int .i64 (q : Nat)) := (k1.cell 7).trans rfl
  have c8 : w1.cell? ⟨w.heap.size, 8, none⟩ = some (.bool rb) := (k1.cell 8).trans rfl
  have c9 : w1.cell? ⟨w.heap.size, 9, none⟩ = some (.bool true) := (k1.cell 9).trans rfl
  have c10 : w1.cell? ⟨w.heap.size, 10, none⟩ = some (.string u) := (k1.cell 10).trans rfl
  have c11 : w1.cell? ⟨w.heap.size, 11, none⟩ = some (.bool true) := (k1.cell 11).trans rfl
  have c12 : w1.cell? ⟨w.heap.size, 12, none⟩ = some (.string p) := (k1.cell 12).trans rfl
  replace k1 := Lib.hid k1
  replace b1 := Lib.hid b1
  replace B1 := Lib.hid B1
  replace hi := Lib.hid hi
  replace hz0 := Lib.hid hz0
  replace hz1 := Lib.hid hz1
  replace hz2 := Lib.hid hz2
  go_wp2_with fail
  go_region_held3 (fun W => W.cell? ⟨w.heap.size, 0, none⟩ = some (.int .i64 4) ∧ W.cell? ⟨w.heap.size, 1, none⟩ = some (.bool cl) ∧ W.cell? ⟨w.heap.size, 2, none⟩ = some (.int .i64 (n : Nat)) ∧ W.cell? ⟨w.heap.size, 3, none⟩ = some (.string id) ∧ W.cell? ⟨w.heap.size, 4, none⟩ = some (.bool true) ∧ W.cell? ⟨w.heap.size, 5, none⟩ = some (.string wt) ∧ W.cell? ⟨w.heap.size, 6, none⟩ = some (.string wx) ∧ W.cell? ⟨w.heap.size, 7, none⟩ = some (.int .i64 (q : Nat)) ∧ W.cell? ⟨w.heap.size, 8, none⟩ = some (.bool rb) ∧ W.cell? ⟨w.heap.size, 9, none⟩ = some (.bool true) ∧ W.cell? ⟨w.heap.size, 10, none⟩ = some (.string u) ∧ W.cell? ⟨w.heap.size, 11, none⟩ = some (.bool true) ∧ W.cell? ⟨w.heap.size, 12, none⟩ = some (.string p)) (go_keep)
    (first | (go_at_call 60; refine (F.out _).mono ?_; rintro e w' ⟨rfl, rfl⟩))
  clear c0 c1 c2 c3 c4 c5 c6 c7 c8 c9 c10 c11 c12
  clear kq kr kf
  have o2 := (lit_own (w1.alloc (.cells #[.int .i64 4, .bool cl, .int .i64 (n : Nat), .string id, .bool true, .string wt, .string wx, .int .i64 (q : Nat), .bool rb, .bool true, .string u, .bool true, .string p] 45)) f n).drew
  have k2 := ((k1.out.alloc (.cells #[.int .i64 4, .bool cl, .int .i64 (n : Nat), .string id, .bool true, .string wt, .string wx, .int .i64 (q : Nat), .bool rb, .bool true, .string u, .bool true, .string p] 45)).alloc (.cells #[.int .u8 0, .int .u8 4, .int .u8 77, .int .u8 81, .int .u8 84, .int .u8 84, .int .u8 4, .int .u8 (f : Nat), .int .u8 ((n : Int) / 256), .int .u8 ((n : Int) % 256)] 5)).drew
  have B2 := ((B1.out.alloc (by omega) (.cells #[.int .i64 4, .bool cl, .int .i64 (n : Nat), .string id, .bool true, .string wt, .string wx, .int .i64 (q : Nat), .bool rb, .bool true, .string u, .bool true, .string p] 45)).alloc (by simp; omega) (.cells #[.int .u8 0, .int .u8 4, .int .u8 77, .int .u8 81, .int .u8 84, .int .u8 84, .int .u8 4, .int .u8 (f : Nat), .int .u8 ((n : Int) / 256), .int .u8 ((n : Int) % 256)] 5)).drew
  have y2 : w1.heap.size + 1 < (((w1.alloc (.cells #[.int .i64 4, .bool cl, .int .i64 (n : Nat), .string id, .bool true, .string wt, .string wx, .int .i64 (q : Nat), .bool rb, .bool true, .string u, .bool true, .string p] 45)).alloc (.cells #[.int .u8 0, .int .u8 4, .int .u8 77, .int .u8 81, .int .u8 84, .int .u8 84, .int .u8 4, .int .u8 (f : Nat), .int .u8 ((n : Int) / 256), .int .u8 ((n : Int) % 256)] 5)).drew).heap.size := by simp
  rw [show (w1.alloc (.cells #[.int .i64 4, .bool cl, .int .i64 (n : Nat), .string id, .bool true, .string wt, .string wx, .int .i64 (q : Nat), .bool rb, .bool true, .string u, .bool true, .string p] 45)).heap.size = w1.heap.size + 1 by simp] at o2
  generalize (((w1.alloc (.cells #[.int .i64 4, .bool cl, .int .i64 (n : Nat), .string id, .bool true, .string wt, .string wx, .int .i64 (q : Nat), .bool rb, .bool true, .string u, .bool true, .string p] 45)).alloc (.cells #[.int .u8 0, .int .u8 4, .int .u8 77, .int .u8 81, .int .u8 84, .int .u8 84, .int .u8 4, .int .u8 (f : Nat), .int .u8 ((n : Int) / 256), .int .u8 ((n : Int) % 256)] 5)).drew) = w2 at *
  have c2_3 : w2.cell? ⟨w.heap.size, 3, none⟩ = some (.string id) := (k2.cell 3).trans rfl
  replace o2 := Lib.hid o2
  replace k2 := Lib.hid k2
  replace B2 := Lib.hid B2
  go_wp2_with fail
  refine (Did.out _).mono ?_
  rintro e w3 ⟨v3, rfl, a3, b3⟩
  have o3 := own_below o2.out b3
  have k3 := k2.out.ext b3
  have B3 := ext_trans B2.out b3
  have y3 : w1.heap.size + 1 ≤ w3.heap.size := by have := b3.size; omega
  clear c2_3 b3
  replace k3 := Lib.hid k3
  replace B3 := Lib.hid B3
  by_cases h0 : eid ≠ 0
  · have h' : (eid != 0) = true := by simpa using h0
    have hf := Lib.hid (X0.out  h0)
    replace h0 := Lib.hid h0
    clear o3 a3
    go_wp2_with fail
    go_ret2
    rw [hf.out]
    exact ⟨_, rfl, nil_bytes _, B3.out⟩
  replace h0 : eid = 0 := by omega
  have h'0 : (eid != 0) = false := by rw [h0]; rfl
  replace h0 := Lib.hid h0
  go_wp2_with (at_builtin; go_must (refine wpList_append_bytes _ rfl (.tmp 39) (.tmp 40) 24 rfl (w1.heap.size + 1) 5 i0 Try.underlying24 hi.out hz0.out hz1.out hz2.out (.slice (some ⟨w1.heap.size + 1, 0, none⟩) 10 10) (hd f n) (uL id) rfl o3 a3 (by simp only [List.length_append, hd, List.length_cons, List.length_nil]; omega) y3 ?_); intro v4 w4 o4 g4 n4; clear n4; have x4 : Below (w1.heap.size + 1) w3 w4 := grown_ext o3 g4 y3; have k4 := k3.out.below x4 (by omega); have B4 := B3.out.trans (x4.mono (by omega)); have c4_4 : w4.cell? ⟨w.heap.size, 4, none⟩ = some (.bool true) := (k4.cell 4).trans rfl; have c4_5 : w4.cell? ⟨w.heap.size, 5, none⟩ = some (.string wt) := (k4.cell 5).trans rfl; have y4 : w1.heap.size + 1 ≤ w4.heap.size := (by have := x4.size; omega); clear o3 a3 g4 x4; replace o4 := Lib.hid o4; replace k4 := Lib.hid k4; replace B4 := Lib.hid B4)
  refine (Dwt.out _).mono ?_
  rintro e w5 ⟨v5, rfl, a5, b5⟩
  have o5 := own_below o4.out b5
  have k5 := k4.out.ext b5
  have B5 := ext_trans B4.out b5
  have y5 : w1.heap.size + 1 ≤ w5.heap.size := by have := b5.size; omega
  clear c4_4 c4_5 b5
  replace k5 := Lib.hid k5
  replace B5 := Lib.hid B5
  by_cases h1 : ewt ≠ 0
  · have h' : (ewt != 0) = true := by simpa using h1
    have hf := Lib.hid (X1.out h0.out h1)
    replace h1 := Lib.hid h1
    clear o5 a5
    go_wp2_with fail
    go_ret2
    rw [hf.out]
    exact ⟨_, rfl, nil_bytes _, B5.out⟩
  replace h1 : ewt = 0 := by omega
  have h'1 : (ewt != 0) = false := by rw [h1]; rfl
  replace h1 := Lib.hid h1
  go_wp2_with (at_builtin; go_must (refine wpList_append_bytes _ rfl (.tmp 54) (.tmp 55) 24 rfl (w1.heap.size + 1) 5 i0 Try.underlying24 hi.out hz0.out hz1.out hz2.out v4 (hd f n ++ uL id) (uL wt) rfl o5 a5 (by simp only [List.length_append, hd, List.length_cons, List.length_nil]; omega) y5 ?_); intro v6 w6 o6 g6 n6; clear n6; have x6 : Below (w1.heap.size + 1) w5 w6 := grown_ext o5 g6 y5; have k6 := k5.out.below x6 (by omega); have B6 := B5.out.trans (x6.mono (by omega)); have c6_6 : w6.cell? ⟨w.heap.size, 6, none⟩ = some (.string wx) := (k6.cell 6).trans rfl; have y6 : w1.heap.size + 1 ≤ w6.heap.size := (by have := x6.size; omega); clear o5 a5 g6 x6; replace o6 := Lib.hid o6; replace k6 := Lib.hid k6; replace B6 := Lib.hid B6)
  refine (Dwx.out _).mono ?_
  rintro e w7 ⟨v7, rfl, a7, b7⟩
  have o7 := own_below o6.out b7
  have k7 := k6.out.ext b7
  have B7 := ext_trans B6.out b7
  have y7 : w1.heap.size + 1 ≤ w7.heap.size := by have := b7.size; omega
  clear c6_6 b7
  replace k7 := Lib.hid k7
  replace B7 := Lib.hid B7
  by_cases h2 : ewx ≠ 0
  · have h' : (ewx != 0) = true := by simpa using h2
    have hf := Lib.hid (X2.out h0.out h1.out h2)
    replace h2 := Lib.hid h2
    clear o7 a7
    go_wp2_with fail
    go_ret2
    rw [hf.out]
    exact ⟨_, rfl, nil_bytes _, B7.out⟩
  replace h2 : ewx = 0 := by omega
  have h'2 : (ewx != 0) = false := by rw [h2]; rfl
  replace h2 := Lib.hid h2
  go_wp2_with (at_builtin; go_must (refine wpList_append_bytes _ rfl (.tmp 67) (.tmp 68) 24 rfl (w1.heap.size + 1) 5 i0 Try.underlying24 hi.out hz0.out hz1.out hz2.out v6 (hd f n ++ uL id ++ uL wt) (rL wx) rfl o7 a7 (by simp only [List.length_append, hd, List.length_cons, List.length_nil]; omega) y7 ?_); intro v8 w8 o8 g8 n8; clear n8; have x8 : Below (w1.heap.size + 1) w7 w8 := grown_ext o7 g8 y7; have k8 := k7.out.below x8 (by omega); have B8 := B7.out.trans (x8.mono (by omega)); have c8_9 : w8.cell? ⟨w.heap.size, 9, none⟩ = some (.bool true) := (k8.cell 9).trans rfl; have c8_10 : w8.cell? ⟨w.heap.size, 10, none⟩ = some (.string u) := (k8.cell 10).trans rfl; have y8 : w1.heap.size + 1 ≤ w8.heap.size := (by have := x8.size; omega); clear o7 a7 g8 x8; replace o8 := Lib.hid o8; replace k8 := Lib.hid k8; replace B8 := Lib.hid B8)
  refine (Du.out _).mono ?_
  rintro e w9 ⟨v9, rfl, a9, b9⟩
  have o9 := own_below o8.out b9
  have k9 := k8.out.ext b9
  have B9 := ext_trans B8.out b9
  have y9 : w1.heap.size + 1 ≤ w9.heap.size := by have := b9.size; omega
  clear c8_9 c8_10 b9
  replace k9 := Lib.hid k9
  replace B9 := Lib.hid B9
  by_cases h3 : eu ≠ 0
  · have h' : (eu != 0) = true := by simpa using h3
    have hf := Lib.hid (X3.out h0.out h1.out h2.out h3)
    replace h3 := Lib.hid h3
    clear o9 a9
    go_wp2_with fail
    go_ret2
    rw [hf.out]
    exact ⟨_, rfl, nil_bytes _, B9.out⟩
  replace h3 : eu = 0 := by omega
  have h'3 : (eu != 0) = false := by rw [h3]; rfl
  replace h3 := Lib.hid h3
  go_wp2_with (at_builtin; go_must (refine wpList_append_bytes _ rfl (.tmp 81) (.tmp 82) 24 rfl (w1.heap.size + 1) 5 i0 Try.underlying24 hi.out hz0.out hz1.out hz2.out v8 (hd f n ++ uL id ++ uL wt ++ rL wx) (uL u) rfl o9 a9 (by simp only [List.length_append, hd, List.length_cons, List.length_nil]; omega) y9 ?_); intro v10 w10 o10 g10 n10; clear n10; have x10 : Below (w1.heap.size + 1) w9 w10 := grown_ext o9 g10 y9; have k10 := k9.out.below x10 (by omega); have B10 := B9.out.trans (x10.mono (by omega)); have c10_11 : w10.cell? ⟨w.heap.size, 11, none⟩ = some (.bool true) := (k10.cell 11).trans rfl; have c10_12 : w10.cell? ⟨w.heap.size, 12, none⟩ = some (.string p) := (k10.cell 12).trans rfl; have y10 : w1.heap.size + 1 ≤ w10.heap.size := (by have := x10.size; omega); clear o9 a9 g10 x10; replace o10 := Lib.hid o10; replace k10 := Lib.hid k10; replace B10 := Lib.hid B10)
  refine (Dp.out _).mono ?_
  rintro e w11 ⟨v11, rfl, a11, b11⟩
  have o11 := own_below o10.out b11
  have k11 := k10.out.ext b11
  have B11 := ext_trans B10.out b11
  have y11 : w1.heap.size + 1 ≤ w11.heap.size := by have := b11.size; omega
  clear c10_11 c10_12 b11
  replace k11 := Lib.hid k11
  replace B11 := Lib.hid B11
  by_cases h4 : ep ≠ 0
  · have h' : (ep != 0) = true := by simpa using h4
    have hf := Lib.hid (X4.out h0.out h1.out h2.out h3.out h4)
    replace h4 := Lib.hid h4
    clear o11 a11
    go_wp2_with fail
    go_ret2
    rw [hf.out]
    exact ⟨_, rfl, nil_bytes _, B11.out⟩
  replace h4 : ep = 0 := by omega
  have h'4 : (ep != 0) = false := by rw [h4]; rfl
  replace h4 := Lib.hid h4
  go_wp2_with (at_builtin; go_must (refine wpList_append_bytes _ rfl (.tmp 95) (.tmp 96) 24 rfl (w1.heap.size + 1) 5 i0 Try.underlying24 hi.out hz0.out hz1.out hz2.out v10 (hd f n ++ uL id ++ uL wt ++ rL wx ++ uL u) (rL p) rfl o11 a11 (by simp only [List.length_append, hd, List.length_cons, List.length_nil]; omega) y11 ?_); intro v12 w12 o12 g12 n12; clear n12; have x12 : Below (w1.heap.size + 1) w11 w12 := grown_ext o11 g12 y11; have k12 := k11.out.below x12 (by omega); have B12 := B11.out.trans (x12.mono (by omega)); have y12 : w1.heap.size + 1 ≤ w12.heap.size := (by have := x12.size; omega); clear o11 a11 g12 x12; replace o12 := Lib.hid o12; replace k12 := Lib.hid k12; replace B12 := Lib.hid B12; obtain ⟨lf, hlf⟩ : ∃ lf, lf = hd f n ++ uL id ++ uL wt ++ rL wx ++ uL u ++ rL p := ⟨_, rfl⟩; have hb : lf.length ≤ 327695 := (by rw [hlf]; simp only [List.length_append, hd, List.length_cons, List.length_nil]; omega); have of := o12.out; rw [← hlf] at of; replace hlf := Lib.hid hlf; obtain ⟨af, cf, rfl⟩ := own_slice of; replace of := Lib.hid of)
  · have hl : 4096 < lf.length := by omega
    go_ret2
    rw [XX.out h0.out h1.out h2.out h3.out h4.out, ← hlf.out, fin_long _ hl]
    exact ⟨_, rfl, nil_bytes _, B12.out⟩
  · have hl : ¬ 4096 < lf.length := by omega
    go_ret2
    rw [XX.out h0.out h1.out h2.out h3.out h4.out, ← hlf.out, fin_ok _ hl]
    exact ⟨_, rfl, BytesAt.of_own of.out, B12.out⟩
set_option maxHeartbeats 4000000 in
set_option maxRecDepth 100000 in
theorem rcput_ttf (cl : Bool) (n : Nat) (id : ByteArray) (wt : ByteArray) (wx : ByteArray) (q : Nat) (rb : Bool) (u : ByteArray) (w : World) (hn : n ≤ 65535) (hq : q < 3) (hwx : wx.size ≤ 140737488351232) (h0 : conE 4 (n : Nat) true wt wx (q : Nat) rb true u false ⟨#[]⟩ = 0) :
    Calls Try.prog 24 #[con 4 cl (n : Nat) id true wt wx (q : Nat) rb true u false ⟨#[]⟩] w (Numb (fin (gat [([0, 4, 77, 81, 84, 84], 0), ([4, fl q cl true rb false true 5], 0), ([n / 256, n % 256], 0), (uL id, textE id), (uL wt, textE wt), (rL wx, laidE wx), (uL u, textE u)])).1 (fin (gat [([0, 4, 77, 81, 84, 84], 0), ([4, fl q cl true rb false true 5], 0), ([n / 256, n % 256], 0), (uL id, textE id), (uL wt, textE wt), (rL wx, laidE wx), (uL u, textE u)])).2 w) := by
  have R := fun W => wrongs59 4 cl n id true wt wx q rb true u false ⟨#[]⟩ W
  rw [h0] at R
  replace R := Lib.hid R
  clear h0
  have F := fun W => rflags_w 4 cl n id wt wx q rb true u false ⟨#[]⟩ W hq
  have f256 := fl_lt ⟨q, hq⟩ cl true rb false true ⟨5, by decide⟩
  simp only at f256
  generalize gf : fl q cl true rb false true 5 = f at *
  replace gf := Lib.hid gf
  replace F := Lib.hid F
  have hn' : (n : Int) ≤ 65535 := by omega
  have kf := u8_nat f f256
  have kq := w_quo n hn
  have kr := w_rem n hn
  have Did := fun W => u_rput id W
  obtain ⟨eid, gid⟩ : ∃ E, E = textE id := ⟨_, rfl⟩
  rw [← gid] at Did
  replace Did := Lib.hid Did
  have lid := uL_len id
  have Dwt := fun W => u_rput wt W
  obtain ⟨ewt, gwt⟩ : ∃ E, E = textE wt := ⟨_, rfl⟩
  rw [← gwt] at Dwt
  replace Dwt := Lib.hid Dwt
  have lwt := uL_len wt
  have Dwx := fun W => u_rraw wx W (by omega)
  obtain ⟨ewx, gwx⟩ : ∃ E, E = laidE wx := ⟨_, rfl⟩
  rw [← gwx] at Dwx
  replace Dwx := Lib.hid Dwx
  have lwx := rL_len wx
  have Du := fun W => u_rput u W
  obtain ⟨eu, gu⟩ : ∃ E, E = textE u := ⟨_, rfl⟩
  rw [← gu] at Du
  replace Du := Lib.hid Du
  have lu := uL_len u
  have X0 : (h : eid ≠ 0) → fin (gat [([0, 4, 77, 81, 84, 84], 0), ([4, f], 0), ([n / 256, n % 256], 0), (uL id, textE id), (uL wt, textE wt), (rL wx, laidE wx), (uL u, textE u)]) = ([], eid) := by
    intro h
    unfold gat; simp only [List.foldl]; rw [st_ok, st_ok, st_ok, hd_eq, st_ok, ← gid, st_er _ _ _ h, st_er _ _ _ h, st_er _ _ _ h]
    exact fin_er _ _ h
  have X1 : (h0 : eid = 0) → (h : ewt ≠ 0) → fin (gat [([0, 4, 77, 81, 84, 84], 0), ([4, f], 0), ([n / 256, n % 256], 0), (uL id, textE id), (uL wt, textE wt), (rL wx, laidE wx), (uL u, textE u)]) = ([], ewt) := by
    intro h0 h
    unfold gat; simp only [List.foldl]; rw [st_ok, st_ok, st_ok, hd_eq, st_ok, ← gid, h0, st_ok, ← gwt, st_er _ _ _ h, st_er _ _ _ h]
    exact fin_er _ _ h
  have X2 : (h0 : eid = 0) → (h1 : ewt = 0) → (h : ewx ≠ 0) → fin (gat [([0, 4, 77, 81, 84, 84], 0), ([4, f], 0), ([n / 256, n % 256], 0), (uL id, textE id), (uL wt, textE wt), (rL wx, laidE wx), (uL u, textE u)]) = ([], ewx) := by
    intro h0 h1 h
    unfold gat; simp only [List.foldl]; rw [st_ok, st_ok, st_ok, hd_eq, st_ok, ← gid, h0, st_ok, ← gwt, h1, st_ok, ← gwx, st_er _ _ _ h]
    exact fin_er _ _ h
  have X3 : (h0 : eid = 0) → (h1 : ewt = 0) → (h2 : ewx = 0) → (h : eu ≠ 0) → fin (gat [([0, 4, 77, 81, 84, 84], 0), ([4, f], 0), ([n / 256, n % 256], 0), (uL id, textE id), (uL wt, textE wt), (rL wx, laidE wx), (uL u, textE u)]) = ([], eu) := by
    intro h0 h1 h2 h
    unfold gat; simp only [List.foldl]; rw [st_ok, st_ok, st_ok, hd_eq, st_ok, ← gid, h0, st_ok, ← gwt, h1, st_ok, ← gwx, h2, st_ok, ← gu]
    exact fin_er _ _ h
  have XX : (h0 : eid = 0) → (h1 : ewt = 0) → (h2 : ewx = 0) → (h3 : eu = 0) →  gat [([0, 4, 77, 81, 84, 84], 0), ([4, f], 0), ([n / 256, n % 256], 0), (uL id, textE id), (uL wt, textE wt), (rL wx, laidE wx), (uL u, textE u)] = (hd f n ++ uL id ++ uL wt ++ rL wx ++ uL u, 0) := by
    intro h0 h1 h2 h3
    unfold gat; simp only [List.foldl]; rw [st_ok, st_ok, st_ok, hd_eq, st_ok, ← gid, h0, st_ok, ← gwt, h1, st_ok, ← gwx, h2, st_ok, ← gu, h3]
  replace X0 := Lib.hid X0
  replace X1 := Lib.hid X1
  replace X2 := Lib.hid X2
  replace X3 := Lib.hid X3
  replace XX := Lib.hid XX
  replace gid := Lib.hid gid
  replace gwt := Lib.hid gwt
  replace gwx := Lib.hid gwx
  replace gu := Lib.hid gu
  unfold con at R F ⊢
  have k0 : Blk (w.alloc (.cells #[.int .i64 4, .bool cl, .int .i64 (n : Nat), .string id, .bool true, .string wt, .string wx, .int .i64 (q : Nat), .bool rb, .bool true, .string u, .bool false, .string ⟨#[]⟩] 45)) w.heap.size 45 _ := Blk.new w 45 _
  have b0 := ext_alloc w (.cells #[.int .i64 4, .bool cl, .int .i64 (n : Nat), .string id, .bool true, .string wt, .string wx, .int .i64 (q : Nat), .bool rb, .bool true, .string u, .bool false, .string ⟨#[]⟩] 45)
  replace b0 := Lib.hid b0
  replace k0 := Lib.hid k0
  obtain ⟨i0, hi, hz0, hz1, hz2⟩ := info_parts info5
  go_enter Try.func24, Try.ntmps24
  go_wp2_with fail
  refine (R.out _).mono ?_
  rintro e w1 ⟨rfl, b1⟩
  have k1 := k0.out.ext b1
  have B1 : Below w.heap.size w w1 := ext_trans b0.out b1
  have z1 : w.heap.size < w1.heap.size := by have := b1.size; simp at this; omega
  have c0 : w1.cell? ⟨w.heap.size, 0, none⟩ = some (.int .i64 4) := (k1.cell 0).trans rfl
  have c1 : w1.cell? ⟨w.heap.size, 1, none⟩ = some (.bool cl) := (k1.cell 1).trans rfl
  have c2 : w1.cell? ⟨w.heap.size, 2, none⟩ = some (.int .i64 (n : Nat)) := (k1.cell 2).trans rfl
  have c3 : w1.cell? ⟨w.heap.size, 3, none⟩ = some (.string id) := (k1.cell 3).trans rfl
  have c4 : w1.cell? ⟨w.heap.size, 4, none⟩ = some (.bool true) := (k1.cell 4).trans rfl
  have c5 : w1.cell? ⟨w.heap.size, 5, none⟩ = some (.string wt) := (k1.cell 5).trans rfl
  have c6 : w1.cell? ⟨w.heap.size, 6, none⟩ = some (.string wx) := (k1.cell 6).trans rfl
  have c7 : w1.cell? ⟨w.heap.size, 7, none⟩ = some (.int .i64 (q : Nat)) := (k1.cell 7).trans rfl
  have c8 : w1.cell? ⟨w.heap.size, 8, none⟩ = some (.bool rb) := (k1.cell 8).trans rfl
  have c9 : w1.cell? ⟨w.heap.size, 9, none⟩ = some (.bool true) := (k1.cell 9).trans rfl
  have c10 : w1.cell? ⟨w.heap.size, 10, none⟩ = some (.string u) := (k1.cell 10).trans rfl
  have c11 : w1.cell? ⟨w.heap.size, 11, none⟩ = some (.bool false) := (k1.cell 11).trans rfl
  have c12 : w1.cell? ⟨w.heap.size, 12, none⟩ = some (.string ⟨#[]⟩) := (k1.cell 12).trans rfl
  replace k1 := Lib.hid k1
  replace b1 := Lib.hid b1
  replace B1 := Lib.hid B1
  replace hi := Lib.hid hi
  replace hz0 := Lib.hid hz0
  replace hz1 := Lib.hid hz1
  replace hz2 := Lib.hid hz2
  go_wp2_with fail
  go_region_held3 (fun W => W.cell? ⟨w.heap.size, 0, none⟩ = some (.int .i64 4) ∧ W.cell? ⟨w.heap.size, 1, none⟩ = some (.bool cl) ∧ W.cell? ⟨w.heap.size, 2, none⟩ = some (.int .i64 (n : Nat)) ∧ W.cell? ⟨w.heap.size, 3, none⟩ = some (.string id) ∧ W.cell? ⟨w.heap.size, 4, none⟩ = some (.bool true) ∧ W.cell? ⟨w.heap.size, 5, none⟩ = some (.string wt) ∧ W.cell? ⟨w.heap.size, 6, none⟩ = some (.string wx) ∧ W.cell? ⟨w.heap.size, 7, none⟩ = some (.int .i64 (q : Nat)) ∧ W.cell? ⟨w.heap.size, 8, none⟩ = some (.bool rb) ∧ W.cell? ⟨w.heap.size, 9, none⟩ = some (.bool true) ∧ W.cell? ⟨w.heap.size, 10, none⟩ = some (.string u) ∧ W.cell? ⟨w.heap.size, 11, none⟩ = some (.bool false) ∧ W.cell? ⟨w.heap.size, 12, none⟩ = some (.string ⟨#[]⟩)) (go_keep)
    (first | (go_at_call 60; refine (F.out _).mono ?_; rintro e w' ⟨rfl, rfl⟩))
  clear c0 c1 c2 c3 c4 c5 c6 c7 c8 c9 c10 c11 c12
  clear kq kr kf
  have o2 := (lit_own (w1.alloc (.cells #[.int .i64 4, .bool cl, .int .i64 (n : Nat), .string id, .bool true, .string wt, .string wx, .int .i64 (q : Nat), .bool rb, .bool true, .string u, .bool false, .string ⟨#[]⟩] 45)) f n).drew
  have k2 := ((k1.out.alloc (.cells #[.int .i64 4, .bool cl, .int .i64 (n : Nat), .string id, .bool true, .string wt, .string wx, .int .i64 (q : Nat), .bool rb, .bool true, .string u, .bool false, .string ⟨#[]⟩] 45)).alloc (.cells #[.int .u8 0, .int .u8 4, .int .u8 77, .int .u8 81, .int .u8 84, .int .u8 84, .int .u8 4, .int .u8 (f : Nat), .int .u8 ((n : Int) / 256), .int .u8 ((n : Int) % 256)] 5)).drew
  have B2 := ((B1.out.alloc (by omega) (.cells #[.int .i64 4, .bool cl, .int .i64 (n : Nat), .string id, .bool true, .string wt, .string wx, .int .i64 (q : Nat), .bool rb, .bool true, .string u, .bool false, .string ⟨#[]⟩] 45)).alloc (by simp; omega) (.cells #[.int .u8 0, .int .u8 4, .int .u8 77, .int .u8 81, .int .u8 84, .int .u8 84, .int .u8 4, .int .u8 (f : Nat), .int .u8 ((n : Int) / 256), .int .u8 ((n : Int) % 256)] 5)).drew
  have y2 : w1.heap.size + 1 < (((w1.alloc (.cells #[.int .i64 4, .bool cl, .int .i64 (n : Nat), .string id, .bool true, .string wt, .string wx, .int .i64 (q : Nat), .bool rb, .bool true, .string u, .bool false, .string ⟨#[]⟩] 45)).alloc (.cells #[.int .u8 0, .int .u8 4, .int .u8 77, .int .u8 81, .int .u8 84, .int .u8 84, .int .u8 4, .int .u8 (f : Nat), .int .u8 ((n : Int) / 256), .int .u8 ((n : Int) % 256)] 5)).drew).heap.size := by simp
  rw [show (w1.alloc (.cells #[.int .i64 4, .bool cl, .int .i64 (n : Nat), .string id, .bool true, .string wt, .string wx, .int .i64 (q : Nat), .bool rb, .bool true, .string u, .bool false, .string ⟨#[]⟩] 45)).heap.size = w1.heap.size + 1 by simp] at o2
  generalize (((w1.alloc (.cells #[.int .i64 4, .bool cl, .int .i64 (n : Nat), .string id, .bool true, .string wt, .string wx, .int .i64 (q : Nat), .bool rb, .bool true, .string u, .bool false, .string ⟨#[]⟩] 45)).alloc (.cells #[.int .u8 0, .int .u8 4, .int .u8 77, .int .u8 81, .int .u8 84, .int .u8 84, .int .u8 4, .int .u8 (f : Nat), .int .u8 ((n : Int) / 256), .int .u8 ((n : Int) % 256)] 5)).drew) = w2 at *
  have c2_3 : w2.cell? ⟨w.heap.size, 3, none⟩ = some (.string id) := (k2.cell 3).trans rfl
  replace o2 := Lib.hid o2
  replace k2 := Lib.hid k2
  replace B2 := Lib.hid B2
  go_wp2_with fail
  refine (Did.out _).mono ?_
  rintro e w3 ⟨v3, rfl, a3, b3⟩
  have o3 := own_below o2.out b3
  have k3 := k2.out.ext b3
  have B3 := ext_trans B2.out b3
  have y3 : w1.heap.size + 1 ≤ w3.heap.size := by have := b3.size; omega
  clear c2_3 b3
  replace k3 := Lib.hid k3
  replace B3 := Lib.hid B3
  by_cases h0 : eid ≠ 0
  · have h' : (eid != 0) = true := by simpa using h0
    have hf := Lib.hid (X0.out  h0)
    replace h0 := Lib.hid h0
    clear o3 a3
    go_wp2_with fail
    go_ret2
    rw [hf.out]
    exact ⟨_, rfl, nil_bytes _, B3.out⟩
  replace h0 : eid = 0 := by omega
  have h'0 : (eid != 0) = false := by rw [h0]; rfl
  replace h0 := Lib.hid h0
  go_wp2_with (at_builtin; go_must (refine wpList_append_bytes _ rfl (.tmp 39) (.tmp 40) 24 rfl (w1.heap.size + 1) 5 i0 Try.underlying24 hi.out hz0.out hz1.out hz2.out (.slice (some ⟨w1.heap.size + 1, 0, none⟩) 10 10) (hd f n) (uL id) rfl o3 a3 (by simp only [List.length_append, hd, List.length_cons, List.length_nil]; omega) y3 ?_); intro v4 w4 o4 g4 n4; clear n4; have x4 : Below (w1.heap.size + 1) w3 w4 := grown_ext o3 g4 y3; have k4 := k3.out.below x4 (by omega); have B4 := B3.out.trans (x4.mono (by omega)); have c4_4 : w4.cell? ⟨w.heap.size, 4, none⟩ = some (.bool true) := (k4.cell 4).trans rfl; have c4_5 : w4.cell? ⟨w.heap.size, 5, none⟩ = some (.string wt) := (k4.cell 5).trans rfl; have y4 : w1.heap.size + 1 ≤ w4.heap.size := (by have := x4.size; omega); clear o3 a3 g4 x4; replace o4 := Lib.hid o4; replace k4 := Lib.hid k4; replace B4 := Lib.hid B4)
  refine (Dwt.out _).mono ?_
  rintro e w5 ⟨v5, rfl, a5, b5⟩
  have o5 := own_below o4.out b5
  have k5 := k4.out.ext b5
  have B5 := ext_trans B4.out b5
  have y5 : w1.heap.size + 1 ≤ w5.heap.size := by have := b5.size; omega
  clear c4_4 c4_5 b5
  replace k5 := Lib.hid k5
  replace B5 := Lib.hid B5
  by_cases h1 : ewt ≠ 0
  · have h' : (ewt != 0) = true := by simpa using h1
    have hf := Lib.hid (X1.out h0.out h1)
    replace h1 := Lib.hid h1
    clear o5 a5
    go_wp2_with fail
    go_ret2
    rw [hf.out]
    exact ⟨_, rfl, nil_bytes _, B5.out⟩
  replace h1 : ewt = 0 := by omega
  have h'1 : (ewt != 0) = false := by rw [h1]; rfl
  replace h1 := Lib.hid h1
  go_wp2_with (at_builtin; go_must (refine wpList_append_bytes _ rfl (.tmp 54) (.tmp 55) 24 rfl (w1.heap.size + 1) 5 i0 Try.underlying24 hi.out hz0.out hz1.out hz2.out v4 (hd f n ++ uL id) (uL wt) rfl o5 a5 (by simp only [List.length_append, hd, List.length_cons, List.length_nil]; omega) y5 ?_); intro v6 w6 o6 g6 n6; clear n6; have x6 : Below (w1.heap.size + 1) w5 w6 := grown_ext o5 g6 y5; have k6 := k5.out.below x6 (by omega); have B6 := B5.out.trans (x6.mono (by omega)); have c6_6 : w6.cell? ⟨w.heap.size, 6, none⟩ = some (.string wx) := (k6.cell 6).trans rfl; have y6 : w1.heap.size + 1 ≤ w6.heap.size := (by have := x6.size; omega); clear o5 a5 g6 x6; replace o6 := Lib.hid o6; replace k6 := Lib.hid k6; replace B6 := Lib.hid B6)
  refine (Dwx.out _).mono ?_
  rintro e w7 ⟨v7, rfl, a7, b7⟩
  have o7 := own_below o6.out b7
  have k7 := k6.out.ext b7
  have B7 := ext_trans B6.out b7
  have y7 : w1.heap.size + 1 ≤ w7.heap.size := by have := b7.size; omega
  clear c6_6 b7
  replace k7 := Lib.hid k7
  replace B7 := Lib.hid B7
  by_cases h2 : ewx ≠ 0
  · have h' : (ewx != 0) = true := by simpa using h2
    have hf := Lib.hid (X2.out h0.out h1.out h2)
    replace h2 := Lib.hid h2
    clear o7 a7
    go_wp2_with fail
    go_ret2
    rw [hf.out]
    exact ⟨_, rfl, nil_bytes _, B7.out⟩
  replace h2 : ewx = 0 := by omega
  have h'2 : (ewx != 0) = false := by rw [h2]; rfl
  replace h2 := Lib.hid h2
  go_wp2_with (at_builtin; go_must (refine wpList_append_bytes _ rfl (.tmp 67) (.tmp 68) 24 rfl (w1.heap.size + 1) 5 i0 Try.underlying24 hi.out hz0.out hz1.out hz2.out v6 (hd f n ++ uL id ++ uL wt) (rL wx) rfl o7 a7 (by simp only [List.length_append, hd, List.length_cons, List.length_nil]; omega) y7 ?_); intro v8 w8 o8 g8 n8; clear n8; have x8 : Below (w1.heap.size + 1) w7 w8 := grown_ext o7 g8 y7; have k8 := k7.out.below x8 (by omega); have B8 := B7.out.trans (x8.mono (by omega)); have c8_9 : w8.cell? ⟨w.heap.size, 9, none⟩ = some (.bool true) := (k8.cell 9).trans rfl; have c8_10 : w8.cell? ⟨w.heap.size, 10, none⟩ = some (.string u) := (k8.cell 10).trans rfl; have y8 : w1.heap.size + 1 ≤ w8.heap.size := (by have := x8.size; omega); clear o7 a7 g8 x8; replace o8 := Lib.hid o8; replace k8 := Lib.hid k8; replace B8 := Lib.hid B8)
  refine (Du.out _).mono ?_
  rintro e w9 ⟨v9, rfl, a9, b9⟩
  have o9 := own_below o8.out b9
  have k9 := k8.out.ext b9
  have B9 := ext_trans B8.out b9
  have y9 : w1.heap.size + 1 ≤ w9.heap.size := by have := b9.size; omega
  clear c8_9 c8_10 b9
  replace k9 := Lib.hid k9
  replace B9 := Lib.hid B9
  by_cases h3 : eu ≠ 0
  · have h' : (eu != 0) = true := by simpa using h3
    have hf := Lib.hid (X3.out h0.out h1.out h2.out h3)
    replace h3 := Lib.hid h3
    clear o9 a9
    go_wp2_with fail
    go_ret2
    rw [hf.out]
    exact ⟨_, rfl, nil_bytes _, B9.out⟩
  replace h3 : eu = 0 := by omega
  have h'3 : (eu != 0) = false := by rw [h3]; rfl
  replace h3 := Lib.hid h3
  go_wp2_with (at_builtin; go_must (refine wpList_append_bytes _ rfl (.tmp 81) (.tmp 82) 24 rfl (w1.heap.size + 1) 5 i0 Try.underlying24 hi.out hz0.out hz1.out hz2.out v8 (hd f n ++ uL id ++ uL wt ++ rL wx) (uL u) rfl o9 a9 (by simp only [List.length_append, hd, List.length_cons, List.length_nil]; omega) y9 ?_); intro v10 w10 o10 g10 n10; clear n10; have x10 : Below (w1.heap.size + 1) w9 w10 := grown_ext o9 g10 y9; have k10 := k9.out.below x10 (by omega); have B10 := B9.out.trans (x10.mono (by omega)); have c10_11 : w10.cell? ⟨w.heap.size, 11, none⟩ = some (.bool false) := (k10.cell 11).trans rfl; have y10 : w1.heap.size + 1 ≤ w10.heap.size := (by have := x10.size; omega); clear o9 a9 g10 x10; replace o10 := Lib.hid o10; replace k10 := Lib.hid k10; replace B10 := Lib.hid B10; obtain ⟨lf, hlf⟩ : ∃ lf, lf = hd f n ++ uL id ++ uL wt ++ rL wx ++ uL u := ⟨_, rfl⟩; have hb : lf.length ≤ 262158 := (by rw [hlf]; simp only [List.length_append, hd, List.length_cons, List.length_nil]; omega); have of := o10.out; rw [← hlf] at of; replace hlf := Lib.hid hlf; obtain ⟨af, cf, rfl⟩ := own_slice of; replace of := Lib.hid of)
  · have hl : 4096 < lf.length := by omega
    go_ret2
    rw [XX.out h0.out h1.out h2.out h3.out, ← hlf.out, fin_long _ hl]
    exact ⟨_, rfl, nil_bytes _, B10.out⟩
  · have hl : ¬ 4096 < lf.length := by omega
    go_ret2
    rw [XX.out h0.out h1.out h2.out h3.out, ← hlf.out, fin_ok _ hl]
    exact ⟨_, rfl, BytesAt.of_own of.out, B10.out⟩
set_option maxHeartbeats 4000000 in
set_option maxRecDepth 100000 in
theorem rcput_tff (cl : Bool) (n : Nat) (id : ByteArray) (wt : ByteArray) (wx : ByteArray) (q : Nat) (rb : Bool) (w : World) (hn : n ≤ 65535) (hq : q < 3) (hwx : wx.size ≤ 140737488351232) (h0 : conE 4 (n : Nat) true wt wx (q : Nat) rb false ⟨#[]⟩ false ⟨#[]⟩ = 0) :
    Calls Try.prog 24 #[con 4 cl (n : Nat) id true wt wx (q : Nat) rb false ⟨#[]⟩ false ⟨#[]⟩] w (Numb (fin (gat [([0, 4, 77, 81, 84, 84], 0), ([4, fl q cl true rb false false 5], 0), ([n / 256, n % 256], 0), (uL id, textE id), (uL wt, textE wt), (rL wx, laidE wx)])).1 (fin (gat [([0, 4, 77, 81, 84, 84], 0), ([4, fl q cl true rb false false 5], 0), ([n / 256, n % 256], 0), (uL id, textE id), (uL wt, textE wt), (rL wx, laidE wx)])).2 w) := by
  have R := fun W => wrongs59 4 cl n id true wt wx q rb false ⟨#[]⟩ false ⟨#[]⟩ W
  rw [h0] at R
  replace R := Lib.hid R
  clear h0
  have F := fun W => rflags_w 4 cl n id wt wx q rb false ⟨#[]⟩ false ⟨#[]⟩ W hq
  have f256 := fl_lt ⟨q, hq⟩ cl true rb false false ⟨5, by decide⟩
  simp only at f256
  generalize gf : fl q cl true rb false false 5 = f at *
  replace gf := Lib.hid gf
  replace F := Lib.hid F
  have hn' : (n : Int) ≤ 65535 := by omega
  have kf := u8_nat f f256
  have kq := w_quo n hn
  have kr := w_rem n hn
  have Did := fun W => u_rput id W
  obtain ⟨eid, gid⟩ : ∃ E, E = textE id := ⟨_, rfl⟩
  rw [← gid] at Did
  replace Did := Lib.hid Did
  have lid := uL_len id
  have Dwt := fun W => u_rput wt W
  obtain ⟨ewt, gwt⟩ : ∃ E, E = textE wt := ⟨_, rfl⟩
  rw [← gwt] at Dwt
  replace Dwt := Lib.hid Dwt
  have lwt := uL_len wt
  have Dwx := fun W => u_rraw wx W (by omega)
  obtain ⟨ewx, gwx⟩ : ∃ E, E = laidE wx := ⟨_, rfl⟩
  rw [← gwx] at Dwx
  replace Dwx := Lib.hid Dwx
  have lwx := rL_len wx
  have X0 : (h : eid ≠ 0) → fin (gat [([0, 4, 77, 81, 84, 84], 0), ([4, f], 0), ([n / 256, n % 256], 0), (uL id, textE id), (uL wt, textE wt), (rL wx, laidE wx)]) = ([], eid) := by
    intro h
    unfold gat; simp only [List.foldl]; rw [st_ok, st_ok, st_ok, hd_eq, st_ok, ← gid, st_er _ _ _ h, st_er _ _ _ h]
    exact fin_er _ _ h
  have X1 : (h0 : eid = 0) → (h : ewt ≠ 0) → fin (gat [([0, 4, 77, 81, 84, 84], 0), ([4, f], 0), ([n / 256, n % 256], 0), (uL id, textE id), (uL wt, textE wt), (rL wx, laidE wx)]) = ([], ewt) := by
    intro h0 h
    unfold gat; simp only [List.foldl]; rw [st_ok, st_ok, st_ok, hd_eq, st_ok, ← gid, h0, st_ok, ← gwt, st_er _ _ _ h]
    exact fin_er _ _ h
  have X2 : (h0 : eid = 0) → (h1 : ewt = 0) → (h : ewx ≠ 0) → fin (gat [([0, 4, 77, 81, 84, 84], 0), ([4, f], 0), ([n / 256, n % 256], 0), (uL id, textE id), (uL wt, textE wt), (rL wx, laidE wx)]) = ([], ewx) := by
    intro h0 h1 h
    unfold gat; simp only [List.foldl]; rw [st_ok, st_ok, st_ok, hd_eq, st_ok, ← gid, h0, st_ok, ← gwt, h1, st_ok, ← gwx]
    exact fin_er _ _ h
  have XX : (h0 : eid = 0) → (h1 : ewt = 0) → (h2 : ewx = 0) →  gat [([0, 4, 77, 81, 84, 84], 0), ([4, f], 0), ([n / 256, n % 256], 0), (uL id, textE id), (uL wt, textE wt), (rL wx, laidE wx)] = (hd f n ++ uL id ++ uL wt ++ rL wx, 0) := by
    intro h0 h1 h2
    unfold gat; simp only [List.foldl]; rw [st_ok, st_ok, st_ok, hd_eq, st_ok, ← gid, h0, st_ok, ← gwt, h1, st_ok, ← gwx, h2]
  replace X0 := Lib.hid X0
  replace X1 := Lib.hid X1
  replace X2 := Lib.hid X2
  replace XX := Lib.hid XX
  replace gid := Lib.hid gid
  replace gwt := Lib.hid gwt
  replace gwx := Lib.hid gwx
  unfold con at R F ⊢
  have k0 : Blk (w.alloc (.cells #[.int .i64 4, .bool cl, .int .i64 (n : Nat), .string id, .bool true, .string wt, .string wx, .int .i64 (q : Nat), .bool rb, .bool false, .string ⟨#[]⟩, .bool false, .string ⟨#[]⟩] 45)) w.heap.size 45 _ := Blk.new w 45 _
  have b0 := ext_alloc w (.cells #[.int .i64 4, .bool cl, .int .i64 (n : Nat), .string id, .bool true, .string wt, .string wx, .int .i64 (q : Nat), .bool rb, .bool false, .string ⟨#[]⟩, .bool false, .string ⟨#[]⟩] 45)
  replace b0 := Lib.hid b0
  replace k0 := Lib.hid k0
  obtain ⟨i0, hi, hz0, hz1, hz2⟩ := info_parts info5
  go_enter Try.func24, Try.ntmps24
  go_wp2_with fail
  refine (R.out _).mono ?_
  rintro e w1 ⟨rfl, b1⟩
  have k1 := k0.out.ext b1
  have B1 : Below w.heap.size w w1 := ext_trans b0.out b1
  have z1 : w.heap.size < w1.heap.size := by have := b1.size; simp at this; omega
  have c0 : w1.cell? ⟨w.heap.size, 0, none⟩ = some (.int .i64 4) := (k1.cell 0).trans rfl
  have c1 : w1.cell? ⟨w.heap.size, 1, none⟩ = some (.bool cl) := (k1.cell 1).trans rfl
  have c2 : w1.cell? ⟨w.heap.size, 2, none⟩ = some (.int .i64 (n : Nat)) := (k1.cell 2).trans rfl
  have c3 : w1.cell? ⟨w.heap.size, 3, none⟩ = some (.string id) := (k1.cell 3).trans rfl
  have c4 : w1.cell? ⟨w.heap.size, 4, none⟩ = some (.bool true) := (k1.cell 4).trans rfl
  have c5 : w1.cell? ⟨w.heap.size, 5, none⟩ = some (.string wt) := (k1.cell 5).trans rfl
  have c6 : w1.cell? ⟨w.heap.size, 6, none⟩ = some (.string wx) := (k1.cell 6).trans rfl
  have c7 : w1.cell? ⟨w.heap.size, 7, none⟩ = some (.int .i64 (q : Nat)) := (k1.cell 7).trans rfl
  have c8 : w1.cell? ⟨w.heap.size, 8, none⟩ = some (.bool rb) := (k1.cell 8).trans rfl
  have c9 : w1.cell? ⟨w.heap.size, 9, none⟩ = some (.bool false) := (k1.cell 9).trans rfl
  have c10 : w1.cell? ⟨w.heap.size, 10, none⟩ = some (.string ⟨#[]⟩) := (k1.cell 10).trans rfl
  have c11 : w1.cell? ⟨w.heap.size, 11, none⟩ = some (.bool false) := (k1.cell 11).trans rfl
  have c12 : w1.cell? ⟨w.heap.size, 12, none⟩ = some (.string ⟨#[]⟩) := (k1.cell 12).trans rfl
  replace k1 := Lib.hid k1
  replace b1 := Lib.hid b1
  replace B1 := Lib.hid B1
  replace hi := Lib.hid hi
  replace hz0 := Lib.hid hz0
  replace hz1 := Lib.hid hz1
  replace hz2 := Lib.hid hz2
  go_wp2_with fail
  go_region_held3 (fun W => W.cell? ⟨w.heap.size, 0, none⟩ = some (.int .i64 4) ∧ W.cell? ⟨w.heap.size, 1, none⟩ = some (.bool cl) ∧ W.cell? ⟨w.heap.size, 2, none⟩ = some (.int .i64 (n : Nat)) ∧ W.cell? ⟨w.heap.size, 3, none⟩ = some (.string id) ∧ W.cell? ⟨w.heap.size, 4, none⟩ = some (.bool true) ∧ W.cell? ⟨w.heap.size, 5, none⟩ = some (.string wt) ∧ W.cell? ⟨w.heap.size, 6, none⟩ = some (.string wx) ∧ W.cell? ⟨w.heap.size, 7, none⟩ = some (.int .i64 (q : Nat)) ∧ W.cell? ⟨w.heap.size, 8, none⟩ = some (.bool rb) ∧ W.cell? ⟨w.heap.size, 9, none⟩ = some (.bool false) ∧ W.cell? ⟨w.heap.size, 10, none⟩ = some (.string ⟨#[]⟩) ∧ W.cell? ⟨w.heap.size, 11, none⟩ = some (.bool false) ∧ W.cell? ⟨w.heap.size, 12, none⟩ = some (.string ⟨#[]⟩)) (go_keep)
    (first | (go_at_call 60; refine (F.out _).mono ?_; rintro e w' ⟨rfl, rfl⟩))
  clear c0 c1 c2 c3 c4 c5 c6 c7 c8 c9 c10 c11 c12
  clear kq kr kf
  have o2 := (lit_own (w1.alloc (.cells #[.int .i64 4, .bool cl, .int .i64 (n : Nat), .string id, .bool true, .string wt, .string wx, .int .i64 (q : Nat), .bool rb, .bool false, .string ⟨#[]⟩, .bool false, .string ⟨#[]⟩] 45)) f n).drew
  have k2 := ((k1.out.alloc (.cells #[.int .i64 4, .bool cl, .int .i64 (n : Nat), .string id, .bool true, .string wt, .string wx, .int .i64 (q : Nat), .bool rb, .bool false, .string ⟨#[]⟩, .bool false, .string ⟨#[]⟩] 45)).alloc (.cells #[.int .u8 0, .int .u8 4, .int .u8 77, .int .u8 81, .int .u8 84, .int .u8 84, .int .u8 4, .int .u8 (f : Nat), .int .u8 ((n : Int) / 256), .int .u8 ((n : Int) % 256)] 5)).drew
  have B2 := ((B1.out.alloc (by omega) (.cells #[.int .i64 4, .bool cl, .int .i64 (n : Nat), .string id, .bool true, .string wt, .string wx, .int .i64 (q : Nat), .bool rb, .bool false, .string ⟨#[]⟩, .bool false, .string ⟨#[]⟩] 45)).alloc (by simp; omega) (.cells #[.int .u8 0, .int .u8 4, .int .u8 77, .int .u8 81, .int .u8 84, .int .u8 84, .int .u8 4, .int .u8 (f : Nat), .int .u8 ((n : Int) / 256), .int .u8 ((n : Int) % 256)] 5)).drew
  have y2 : w1.heap.size + 1 < (((w1.alloc (.cells #[.int .i64 4, .bool cl, .int .i64 (n : Nat), .string id, .bool true, .string wt, .string wx, .int .i64 (q : Nat), .bool rb, .bool false, .string ⟨#[]⟩, .bool false, .string ⟨#[]⟩] 45)).alloc (.cells #[.int .u8 0, .int .u8 4, .int .u8 77, .int .u8 81, .int .u8 84, .int .u8 84, .int .u8 4, .int .u8 (f : Nat), .int .u8 ((n : Int) / 256), .int .u8 ((n : Int) % 256)] 5)).drew).heap.size := by simp
  rw [show (w1.alloc (.cells #[.int .i64 4, .bool cl, .int .i64 (n : Nat), .string id, .bool true, .string wt, .string wx, .int .i64 (q : Nat), .bool rb, .bool false, .string ⟨#[]⟩, .bool false, .string ⟨#[]⟩] 45)).heap.size = w1.heap.size + 1 by simp] at o2
  generalize (((w1.alloc (.cells #[.int .i64 4, .bool cl, .int .i64 (n : Nat), .string id, .bool true, .string wt, .string wx, .int .i64 (q : Nat), .bool rb, .bool false, .string ⟨#[]⟩, .bool false, .string ⟨#[]⟩] 45)).alloc (.cells #[.int .u8 0, .int .u8 4, .int .u8 77, .int .u8 81, .int .u8 84, .int .u8 84, .int .u8 4, .int .u8 (f : Nat), .int .u8 ((n : Int) / 256), .int .u8 ((n : Int) % 256)] 5)).drew) = w2 at *
  have c2_3 : w2.cell? ⟨w.heap.size, 3, none⟩ = some (.string id) := (k2.cell 3).trans rfl
  replace o2 := Lib.hid o2
  replace k2 := Lib.hid k2
  replace B2 := Lib.hid B2
  go_wp2_with fail
  refine (Did.out _).mono ?_
  rintro e w3 ⟨v3, rfl, a3, b3⟩
  have o3 := own_below o2.out b3
  have k3 := k2.out.ext b3
  have B3 := ext_trans B2.out b3
  have y3 : w1.heap.size + 1 ≤ w3.heap.size := by have := b3.size; omega
  clear c2_3 b3
  replace k3 := Lib.hid k3
  replace B3 := Lib.hid B3
  by_cases h0 : eid ≠ 0
  · have h' : (eid != 0) = true := by simpa using h0
    have hf := Lib.hid (X0.out  h0)
    replace h0 := Lib.hid h0
    clear o3 a3
    go_wp2_with fail
    go_ret2
    rw [hf.out]
    exact ⟨_, rfl, nil_bytes _, B3.out⟩
  replace h0 : eid = 0 := by omega
  have h'0 : (eid != 0) = false := by rw [h0]; rfl
  replace h0 := Lib.hid h0
  go_wp2_with (at_builtin; go_must (refine wpList_append_bytes _ rfl (.tmp 39) (.tmp 40) 24 rfl (w1.heap.size + 1) 5 i0 Try.underlying24 hi.out hz0.out hz1.out hz2.out (.slice (some ⟨w1.heap.size + 1, 0, none⟩) 10 10) (hd f n) (uL id) rfl o3 a3 (by simp only [List.length_append, hd, List.length_cons, List.length_nil]; omega) y3 ?_); intro v4 w4 o4 g4 n4; clear n4; have x4 : Below (w1.heap.size + 1) w3 w4 := grown_ext o3 g4 y3; have k4 := k3.out.below x4 (by omega); have B4 := B3.out.trans (x4.mono (by omega)); have c4_4 : w4.cell? ⟨w.heap.size, 4, none⟩ = some (.bool true) := (k4.cell 4).trans rfl; have c4_5 : w4.cell? ⟨w.heap.size, 5, none⟩ = some (.string wt) := (k4.cell 5).trans rfl; have y4 : w1.heap.size + 1 ≤ w4.heap.size := (by have := x4.size; omega); clear o3 a3 g4 x4; replace o4 := Lib.hid o4; replace k4 := Lib.hid k4; replace B4 := Lib.hid B4)
  refine (Dwt.out _).mono ?_
  rintro e w5 ⟨v5, rfl, a5, b5⟩
  have o5 := own_below o4.out b5
  have k5 := k4.out.ext b5
  have B5 := ext_trans B4.out b5
  have y5 : w1.heap.size + 1 ≤ w5.heap.size := by have := b5.size; omega
  clear c4_4 c4_5 b5
  replace k5 := Lib.hid k5
  replace B5 := Lib.hid B5
  by_cases h1 : ewt ≠ 0
  · have h' : (ewt != 0) = true := by simpa using h1
    have hf := Lib.hid (X1.out h0.out h1)
    replace h1 := Lib.hid h1
    clear o5 a5
    go_wp2_with fail
    go_ret2
    rw [hf.out]
    exact ⟨_, rfl, nil_bytes _, B5.out⟩
  replace h1 : ewt = 0 := by omega
  have h'1 : (ewt != 0) = false := by rw [h1]; rfl
  replace h1 := Lib.hid h1
  go_wp2_with (at_builtin; go_must (refine wpList_append_bytes _ rfl (.tmp 54) (.tmp 55) 24 rfl (w1.heap.size + 1) 5 i0 Try.underlying24 hi.out hz0.out hz1.out hz2.out v4 (hd f n ++ uL id) (uL wt) rfl o5 a5 (by simp only [List.length_append, hd, List.length_cons, List.length_nil]; omega) y5 ?_); intro v6 w6 o6 g6 n6; clear n6; have x6 : Below (w1.heap.size + 1) w5 w6 := grown_ext o5 g6 y5; have k6 := k5.out.below x6 (by omega); have B6 := B5.out.trans (x6.mono (by omega)); have c6_6 : w6.cell? ⟨w.heap.size, 6, none⟩ = some (.string wx) := (k6.cell 6).trans rfl; have y6 : w1.heap.size + 1 ≤ w6.heap.size := (by have := x6.size; omega); clear o5 a5 g6 x6; replace o6 := Lib.hid o6; replace k6 := Lib.hid k6; replace B6 := Lib.hid B6)
  refine (Dwx.out _).mono ?_
  rintro e w7 ⟨v7, rfl, a7, b7⟩
  have o7 := own_below o6.out b7
  have k7 := k6.out.ext b7
  have B7 := ext_trans B6.out b7
  have y7 : w1.heap.size + 1 ≤ w7.heap.size := by have := b7.size; omega
  clear c6_6 b7
  replace k7 := Lib.hid k7
  replace B7 := Lib.hid B7
  by_cases h2 : ewx ≠ 0
  · have h' : (ewx != 0) = true := by simpa using h2
    have hf := Lib.hid (X2.out h0.out h1.out h2)
    replace h2 := Lib.hid h2
    clear o7 a7
    go_wp2_with fail
    go_ret2
    rw [hf.out]
    exact ⟨_, rfl, nil_bytes _, B7.out⟩
  replace h2 : ewx = 0 := by omega
  have h'2 : (ewx != 0) = false := by rw [h2]; rfl
  replace h2 := Lib.hid h2
  go_wp2_with (at_builtin; go_must (refine wpList_append_bytes _ rfl (.tmp 67) (.tmp 68) 24 rfl (w1.heap.size + 1) 5 i0 Try.underlying24 hi.out hz0.out hz1.out hz2.out v6 (hd f n ++ uL id ++ uL wt) (rL wx) rfl o7 a7 (by simp only [List.length_append, hd, List.length_cons, List.length_nil]; omega) y7 ?_); intro v8 w8 o8 g8 n8; clear n8; have x8 : Below (w1.heap.size + 1) w7 w8 := grown_ext o7 g8 y7; have k8 := k7.out.below x8 (by omega); have B8 := B7.out.trans (x8.mono (by omega)); have c8_9 : w8.cell? ⟨w.heap.size, 9, none⟩ = some (.bool false) := (k8.cell 9).trans rfl; have c8_11 : w8.cell? ⟨w.heap.size, 11, none⟩ = some (.bool false) := (k8.cell 11).trans rfl; have y8 : w1.heap.size + 1 ≤ w8.heap.size := (by have := x8.size; omega); clear o7 a7 g8 x8; replace o8 := Lib.hid o8; replace k8 := Lib.hid k8; replace B8 := Lib.hid B8; obtain ⟨lf, hlf⟩ : ∃ lf, lf = hd f n ++ uL id ++ uL wt ++ rL wx := ⟨_, rfl⟩; have hb : lf.length ≤ 196621 := (by rw [hlf]; simp only [List.length_append, hd, List.length_cons, List.length_nil]; omega); have of := o8.out; rw [← hlf] at of; replace hlf := Lib.hid hlf; obtain ⟨af, cf, rfl⟩ := own_slice of; replace of := Lib.hid of)
  · have hl : 4096 < lf.length := by omega
    go_ret2
    rw [XX.out h0.out h1.out h2.out, ← hlf.out, fin_long _ hl]
    exact ⟨_, rfl, nil_bytes _, B8.out⟩
  · have hl : ¬ 4096 < lf.length := by omega
    go_ret2
    rw [XX.out h0.out h1.out h2.out, ← hlf.out, fin_ok _ hl]
    exact ⟨_, rfl, BytesAt.of_own of.out, B8.out⟩
set_option maxHeartbeats 4000000 in
set_option maxRecDepth 100000 in
theorem rcput_ftt (cl : Bool) (n : Nat) (id : ByteArray) (u : ByteArray) (p : ByteArray) (w : World) (hn : n ≤ 65535) (hp : p.size ≤ 140737488351232) (h0 : conE 4 (n : Nat) false ⟨#[]⟩ ⟨#[]⟩ 0 false true u true p = 0) :
    Calls Try.prog 24 #[con 4 cl (n : Nat) id false ⟨#[]⟩ ⟨#[]⟩ 0 false true u true p] w (Numb (fin (gat [([0, 4, 77, 81, 84, 84], 0), ([4, fl 0 cl false false true true 5], 0), ([n / 256, n % 256], 0), (uL id, textE id), (uL u, textE u), (rL p, laidE p)])).1 (fin (gat [([0, 4, 77, 81, 84, 84], 0), ([4, fl 0 cl false false true true 5], 0), ([n / 256, n % 256], 0), (uL id, textE id), (uL u, textE u), (rL p, laidE p)])).2 w) := by
  have R := fun W => wrongs59 4 cl n id false ⟨#[]⟩ ⟨#[]⟩ 0 false true u true p W
  rw [h0] at R
  replace R := Lib.hid R
  clear h0
  have F := fun W => rflags_n 4 cl n id true u true p W
  have f256 := fl_lt ⟨0, by decide⟩ cl false false true true ⟨5, by decide⟩
  simp only at f256
  generalize gf : fl 0 cl false false true true 5 = f at *
  replace gf := Lib.hid gf
  replace F := Lib.hid F
  have hn' : (n : Int) ≤ 65535 := by omega
  have kf := u8_nat f f256
  have kq := w_quo n hn
  have kr := w_rem n hn
  have Did := fun W => u_rput id W
  obtain ⟨eid, gid⟩ : ∃ E, E = textE id := ⟨_, rfl⟩
  rw [← gid] at Did
  replace Did := Lib.hid Did
  have lid := uL_len id
  have Du := fun W => u_rput u W
  obtain ⟨eu, gu⟩ : ∃ E, E = textE u := ⟨_, rfl⟩
  rw [← gu] at Du
  replace Du := Lib.hid Du
  have lu := uL_len u
  have Dp := fun W => u_rraw p W (by omega)
  obtain ⟨ep, gp⟩ : ∃ E, E = laidE p := ⟨_, rfl⟩
  rw [← gp] at Dp
  replace Dp := Lib.hid Dp
  have lp := rL_len p
  have X0 : (h : eid ≠ 0) → fin (gat [([0, 4, 77, 81, 84, 84], 0), ([4, f], 0), ([n / 256, n % 256], 0), (uL id, textE id), (uL u, textE u), (rL p, laidE p)]) = ([], eid) := by
    intro h
    unfold gat; simp only [List.foldl]; rw [st_ok, st_ok, st_ok, hd_eq, st_ok, ← gid, st_er _ _ _ h, st_er _ _ _ h]
    exact fin_er _ _ h
  have X1 : (h0 : eid = 0) → (h : eu ≠ 0) → fin (gat [([0, 4, 77, 81, 84, 84], 0), ([4, f], 0), ([n / 256, n % 256], 0), (uL id, textE id), (uL u, textE u), (rL p, laidE p)]) = ([], eu) := by
    intro h0 h
    unfold gat; simp only [List.foldl]; rw [st_ok, st_ok, st_ok, hd_eq, st_ok, ← gid, h0, st_ok, ← gu, st_er _ _ _ h]
    exact fin_er _ _ h
  have X2 : (h0 : eid = 0) → (h1 : eu = 0) → (h : ep ≠ 0) → fin (gat [([0, 4, 77, 81, 84, 84], 0), ([4, f], 0), ([n / 256, n % 256], 0), (uL id, textE id), (uL u, textE u), (rL p, laidE p)]) = ([], ep) := by
    intro h0 h1 h
    unfold gat; simp only [List.foldl]; rw [st_ok, st_ok, st_ok, hd_eq, st_ok, ← gid, h0, st_ok, ← gu, h1, st_ok, ← gp]
    exact fin_er _ _ h
  have XX : (h0 : eid = 0) → (h1 : eu = 0) → (h2 : ep = 0) →  gat [([0, 4, 77, 81, 84, 84], 0), ([4, f], 0), ([n / 256, n % 256], 0), (uL id, textE id), (uL u, textE u), (rL p, laidE p)] = (hd f n ++ uL id ++ uL u ++ rL p, 0) := by
    intro h0 h1 h2
    unfold gat; simp only [List.foldl]; rw [st_ok, st_ok, st_ok, hd_eq, st_ok, ← gid, h0, st_ok, ← gu, h1, st_ok, ← gp, h2]
  replace X0 := Lib.hid X0
  replace X1 := Lib.hid X1
  replace X2 := Lib.hid X2
  replace XX := Lib.hid XX
  replace gid := Lib.hid gid
  replace gu := Lib.hid gu
  replace gp := Lib.hid gp
  unfold con at R F ⊢
  have k0 : Blk (w.alloc (.cells #[.int .i64 4, .bool cl, .int .i64 (n : Nat), .string id, .bool false, .string ⟨#[]⟩, .string ⟨#[]⟩, .int .i64 0, .bool false, .bool true, .string u, .bool true, .string p] 45)) w.heap.size 45 _ := Blk.new w 45 _
  have b0 := ext_alloc w (.cells #[.int .i64 4, .bool cl, .int .i64 (n : Nat), .string id, .bool false, .string ⟨#[]⟩, .string ⟨#[]⟩, .int .i64 0, .bool false, .bool true, .string u, .bool true, .string p] 45)
  replace b0 := Lib.hid b0
  replace k0 := Lib.hid k0
  obtain ⟨i0, hi, hz0, hz1, hz2⟩ := info_parts info5
  go_enter Try.func24, Try.ntmps24
  go_wp2_with fail
  refine (R.out _).mono ?_
  rintro e w1 ⟨rfl, b1⟩
  have k1 := k0.out.ext b1
  have B1 : Below w.heap.size w w1 := ext_trans b0.out b1
  have z1 : w.heap.size < w1.heap.size := by have := b1.size; simp at this; omega
  have c0 : w1.cell? ⟨w.heap.size, 0, none⟩ = some (.int .i64 4) := (k1.cell 0).trans rfl
  have c1 : w1.cell? ⟨w.heap.size, 1, none⟩ = some (.bool cl) := (k1.cell 1).trans rfl
  have c2 : w1.cell? ⟨w.heap.size, 2, none⟩ = some (.int .i64 (n : Nat)) := (k1.cell 2).trans rfl
  have c3 : w1.cell? ⟨w.heap.size, 3, none⟩ = some (.string id) := (k1.cell 3).trans rfl
  have c4 : w1.cell? ⟨w.heap.size, 4, none⟩ = some (.bool false) := (k1.cell 4).trans rfl
  have c5 : w1.cell? ⟨w.heap.size, 5, none⟩ = some (.string ⟨#[]⟩) := (k1.cell 5).trans rfl
  have c6 : w1.cell? ⟨w.heap.size, 6, none⟩ = some (.string ⟨#[]⟩) := (k1.cell 6).trans rfl
  have c7 : w1.cell? ⟨w.heap.size, 7, none⟩ = some (.int .i64 0) := (k1.cell 7).trans rfl
  have c8 : w1.cell? ⟨w.heap.size, 8, none⟩ = some (.bool false) := (k1.cell 8).trans rfl
  have c9 : w1.cell? ⟨w.heap.size, 9, none⟩ = some (.bool true) := (k1.cell 9).trans rfl
  have c10 : w1.cell? ⟨w.heap.size, 10, none⟩ = some (.string u) := (k1.cell 10).trans rfl
  have c11 : w1.cell? ⟨w.heap.size, 11, none⟩ = some (.bool true) := (k1.cell 11).trans rfl
  have c12 : w1.cell? ⟨w.heap.size, 12, none⟩ = some (.string p) := (k1.cell 12).trans rfl
  replace k1 := Lib.hid k1
  replace b1 := Lib.hid b1
  replace B1 := Lib.hid B1
  replace hi := Lib.hid hi
  replace hz0 := Lib.hid hz0
  replace hz1 := Lib.hid hz1
  replace hz2 := Lib.hid hz2
  go_wp2_with fail
  go_region_held3 (fun W => W.cell? ⟨w.heap.size, 0, none⟩ = some (.int .i64 4) ∧ W.cell? ⟨w.heap.size, 1, none⟩ = some (.bool cl) ∧ W.cell? ⟨w.heap.size, 2, none⟩ = some (.int .i64 (n : Nat)) ∧ W.cell? ⟨w.heap.size, 3, none⟩ = some (.string id) ∧ W.cell? ⟨w.heap.size, 4, none⟩ = some (.bool false) ∧ W.cell? ⟨w.heap.size, 5, none⟩ = some (.string ⟨#[]⟩) ∧ W.cell? ⟨w.heap.size, 6, none⟩ = some (.string ⟨#[]⟩) ∧ W.cell? ⟨w.heap.size, 7, none⟩ = some (.int .i64 0) ∧ W.cell? ⟨w.heap.size, 8, none⟩ = some (.bool false) ∧ W.cell? ⟨w.heap.size, 9, none⟩ = some (.bool true) ∧ W.cell? ⟨w.heap.size, 10, none⟩ = some (.string u) ∧ W.cell? ⟨w.heap.size, 11, none⟩ = some (.bool true) ∧ W.cell? ⟨w.heap.size, 12, none⟩ = some (.string p)) (go_keep)
    (first | (go_at_call 60; refine (F.out _).mono ?_; rintro e w' ⟨rfl, rfl⟩))
  clear c0 c1 c2 c3 c4 c5 c6 c7 c8 c9 c10 c11 c12
  clear kq kr kf
  have o2 := (lit_own (w1.alloc (.cells #[.int .i64 4, .bool cl, .int .i64 (n : Nat), .string id, .bool false, .string ⟨#[]⟩, .string ⟨#[]⟩, .int .i64 0, .bool false, .bool true, .string u, .bool true, .string p] 45)) f n).drew
  have k2 := ((k1.out.alloc (.cells #[.int .i64 4, .bool cl, .int .i64 (n : Nat), .string id, .bool false, .string ⟨#[]⟩, .string ⟨#[]⟩, .int .i64 0, .bool false, .bool true, .string u, .bool true, .string p] 45)).alloc (.cells #[.int .u8 0, .int .u8 4, .int .u8 77, .int .u8 81, .int .u8 84, .int .u8 84, .int .u8 4, .int .u8 (f : Nat), .int .u8 ((n : Int) / 256), .int .u8 ((n : Int) % 256)] 5)).drew
  have B2 := ((B1.out.alloc (by omega) (.cells #[.int .i64 4, .bool cl, .int .i64 (n : Nat), .string id, .bool false, .string ⟨#[]⟩, .string ⟨#[]⟩, .int .i64 0, .bool false, .bool true, .string u, .bool true, .string p] 45)).alloc (by simp; omega) (.cells #[.int .u8 0, .int .u8 4, .int .u8 77, .int .u8 81, .int .u8 84, .int .u8 84, .int .u8 4, .int .u8 (f : Nat), .int .u8 ((n : Int) / 256), .int .u8 ((n : Int) % 256)] 5)).drew
  have y2 : w1.heap.size + 1 < (((w1.alloc (.cells #[.int .i64 4, .bool cl, .int .i64 (n : Nat), .string id, .bool false, .string ⟨#[]⟩, .string ⟨#[]⟩, .int .i64 0, .bool false, .bool true, .string u, .bool true, .string p] 45)).alloc (.cells #[.int .u8 0, .int .u8 4, .int .u8 77, .int .u8 81, .int .u8 84, .int .u8 84, .int .u8 4, .int .u8 (f : Nat), .int .u8 ((n : Int) / 256), .int .u8 ((n : Int) % 256)] 5)).drew).heap.size := by simp
  rw [show (w1.alloc (.cells #[.int .i64 4, .bool cl, .int .i64 (n : Nat), .string id, .bool false, .string ⟨#[]⟩, .string ⟨#[]⟩, .int .i64 0, .bool false, .bool true, .string u, .bool true, .string p] 45)).heap.size = w1.heap.size + 1 by simp] at o2
  generalize (((w1.alloc (.cells #[.int .i64 4, .bool cl, .int .i64 (n : Nat), .string id, .bool false, .string ⟨#[]⟩, .string ⟨#[]⟩, .int .i64 0, .bool false, .bool true, .string u, .bool true, .string p] 45)).alloc (.cells #[.int .u8 0, .int .u8 4, .int .u8 77, .int .u8 81, .int .u8 84, .int .u8 84, .int .u8 4, .int .u8 (f : Nat), .int .u8 ((n : Int) / 256), .int .u8 ((n : Int) % 256)] 5)).drew) = w2 at *
  have c2_3 : w2.cell? ⟨w.heap.size, 3, none⟩ = some (.string id) := (k2.cell 3).trans rfl
  replace o2 := Lib.hid o2
  replace k2 := Lib.hid k2
  replace B2 := Lib.hid B2
  go_wp2_with fail
  refine (Did.out _).mono ?_
  rintro e w3 ⟨v3, rfl, a3, b3⟩
  have o3 := own_below o2.out b3
  have k3 := k2.out.ext b3
  have B3 := ext_trans B2.out b3
  have y3 : w1.heap.size + 1 ≤ w3.heap.size := by have := b3.size; omega
  clear c2_3 b3
  replace k3 := Lib.hid k3
  replace B3 := Lib.hid B3
  by_cases h0 : eid ≠ 0
  · have h' : (eid != 0) = true := by simpa using h0
    have hf := Lib.hid (X0.out  h0)
    replace h0 := Lib.hid h0
    clear o3 a3
    go_wp2_with fail
    go_ret2
    rw [hf.out]
    exact ⟨_, rfl, nil_bytes _, B3.out⟩
  replace h0 : eid = 0 := by omega
  have h'0 : (eid != 0) = false := by rw [h0]; rfl
  replace h0 := Lib.hid h0
  go_wp2_with (at_builtin; go_must (refine wpList_append_bytes _ rfl (.tmp 39) (.tmp 40) 24 rfl (w1.heap.size + 1) 5 i0 Try.underlying24 hi.out hz0.out hz1.out hz2.out (.slice (some ⟨w1.heap.size + 1, 0, none⟩) 10 10) (hd f n) (uL id) rfl o3 a3 (by simp only [List.length_append, hd, List.length_cons, List.length_nil]; omega) y3 ?_); intro v4 w4 o4 g4 n4; clear n4; have x4 : Below (w1.heap.size + 1) w3 w4 := grown_ext o3 g4 y3; have k4 := k3.out.below x4 (by omega); have B4 := B3.out.trans (x4.mono (by omega)); have c4_4 : w4.cell? ⟨w.heap.size, 4, none⟩ = some (.bool false) := (k4.cell 4).trans rfl; have c4_9 : w4.cell? ⟨w.heap.size, 9, none⟩ = some (.bool true) := (k4.cell 9).trans rfl; have c4_10 : w4.cell? ⟨w.heap.size, 10, none⟩ = some (.string u) := (k4.cell 10).trans rfl; have y4 : w1.heap.size + 1 ≤ w4.heap.size := (by have := x4.size; omega); clear o3 a3 g4 x4; replace o4 := Lib.hid o4; replace k4 := Lib.hid k4; replace B4 := Lib.hid B4)
  refine (Du.out _).mono ?_
  rintro e w5 ⟨v5, rfl, a5, b5⟩
  have o5 := own_below o4.out b5
  have k5 := k4.out.ext b5
  have B5 := ext_trans B4.out b5
  have y5 : w1.heap.size + 1 ≤ w5.heap.size := by have := b5.size; omega
  clear c4_4 c4_9 c4_10 b5
  replace k5 := Lib.hid k5
  replace B5 := Lib.hid B5
  by_cases h1 : eu ≠ 0
  · have h' : (eu != 0) = true := by simpa using h1
    have hf := Lib.hid (X1.out h0.out h1)
    replace h1 := Lib.hid h1
    clear o5 a5
    go_wp2_with fail
    go_ret2
    rw [hf.out]
    exact ⟨_, rfl, nil_bytes _, B5.out⟩
  replace h1 : eu = 0 := by omega
  have h'1 : (eu != 0) = false := by rw [h1]; rfl
  replace h1 := Lib.hid h1
  go_wp2_with (at_builtin; go_must (refine wpList_append_bytes _ rfl (.tmp 81) (.tmp 82) 24 rfl (w1.heap.size + 1) 5 i0 Try.underlying24 hi.out hz0.out hz1.out hz2.out v4 (hd f n ++ uL id) (uL u) rfl o5 a5 (by simp only [List.length_append, hd, List.length_cons, List.length_nil]; omega) y5 ?_); intro v6 w6 o6 g6 n6; clear n6; have x6 : Below (w1.heap.size + 1) w5 w6 := grown_ext o5 g6 y5; have k6 := k5.out.below x6 (by omega); have B6 := B5.out.trans (x6.mono (by omega)); have c6_11 : w6.cell? ⟨w.heap.size, 11, none⟩ = some (.bool true) := (k6.cell 11).trans rfl; have c6_12 : w6.cell? ⟨w.heap.size, 12, none⟩ = some (.string p) := (k6.cell 12).trans rfl; have y6 : w1.heap.size + 1 ≤ w6.heap.size := (by have := x6.size; omega); clear o5 a5 g6 x6; replace o6 := Lib.hid o6; replace k6 := Lib.hid k6; replace B6 := Lib.hid B6)
  refine (Dp.out _).mono ?_
  rintro e w7 ⟨v7, rfl, a7, b7⟩
  have o7 := own_below o6.out b7
  have k7 := k6.out.ext b7
  have B7 := ext_trans B6.out b7
  have y7 : w1.heap.size + 1 ≤ w7.heap.size := by have := b7.size; omega
  clear c6_11 c6_12 b7
  replace k7 := Lib.hid k7
  replace B7 := Lib.hid B7
  by_cases h2 : ep ≠ 0
  · have h' : (ep != 0) = true := by simpa using h2
    have hf := Lib.hid (X2.out h0.out h1.out h2)
    replace h2 := Lib.hid h2
    clear o7 a7
    go_wp2_with fail
    go_ret2
    rw [hf.out]
    exact ⟨_, rfl, nil_bytes _, B7.out⟩
  replace h2 : ep = 0 := by omega
  have h'2 : (ep != 0) = false := by rw [h2]; rfl
  replace h2 := Lib.hid h2
  go_wp2_with (at_builtin; go_must (refine wpList_append_bytes _ rfl (.tmp 95) (.tmp 96) 24 rfl (w1.heap.size + 1) 5 i0 Try.underlying24 hi.out hz0.out hz1.out hz2.out v6 (hd f n ++ uL id ++ uL u) (rL p) rfl o7 a7 (by simp only [List.length_append, hd, List.length_cons, List.length_nil]; omega) y7 ?_); intro v8 w8 o8 g8 n8; clear n8; have x8 : Below (w1.heap.size + 1) w7 w8 := grown_ext o7 g8 y7; have k8 := k7.out.below x8 (by omega); have B8 := B7.out.trans (x8.mono (by omega)); have y8 : w1.heap.size + 1 ≤ w8.heap.size := (by have := x8.size; omega); clear o7 a7 g8 x8; replace o8 := Lib.hid o8; replace k8 := Lib.hid k8; replace B8 := Lib.hid B8; obtain ⟨lf, hlf⟩ : ∃ lf, lf = hd f n ++ uL id ++ uL u ++ rL p := ⟨_, rfl⟩; have hb : lf.length ≤ 196621 := (by rw [hlf]; simp only [List.length_append, hd, List.length_cons, List.length_nil]; omega); have of := o8.out; rw [← hlf] at of; replace hlf := Lib.hid hlf; obtain ⟨af, cf, rfl⟩ := own_slice of; replace of := Lib.hid of)
  · have hl : 4096 < lf.length := by omega
    go_ret2
    rw [XX.out h0.out h1.out h2.out, ← hlf.out, fin_long _ hl]
    exact ⟨_, rfl, nil_bytes _, B8.out⟩
  · have hl : ¬ 4096 < lf.length := by omega
    go_ret2
    rw [XX.out h0.out h1.out h2.out, ← hlf.out, fin_ok _ hl]
    exact ⟨_, rfl, BytesAt.of_own of.out, B8.out⟩
set_option maxHeartbeats 4000000 in
set_option maxRecDepth 100000 in
theorem rcput_ftf (cl : Bool) (n : Nat) (id : ByteArray) (u : ByteArray) (w : World) (hn : n ≤ 65535) (h0 : conE 4 (n : Nat) false ⟨#[]⟩ ⟨#[]⟩ 0 false true u false ⟨#[]⟩ = 0) :
    Calls Try.prog 24 #[con 4 cl (n : Nat) id false ⟨#[]⟩ ⟨#[]⟩ 0 false true u false ⟨#[]⟩] w (Numb (fin (gat [([0, 4, 77, 81, 84, 84], 0), ([4, fl 0 cl false false false true 5], 0), ([n / 256, n % 256], 0), (uL id, textE id), (uL u, textE u)])).1 (fin (gat [([0, 4, 77, 81, 84, 84], 0), ([4, fl 0 cl false false false true 5], 0), ([n / 256, n % 256], 0), (uL id, textE id), (uL u, textE u)])).2 w) := by
  have R := fun W => wrongs59 4 cl n id false ⟨#[]⟩ ⟨#[]⟩ 0 false true u false ⟨#[]⟩ W
  rw [h0] at R
  replace R := Lib.hid R
  clear h0
  have F := fun W => rflags_n 4 cl n id true u false ⟨#[]⟩ W
  have f256 := fl_lt ⟨0, by decide⟩ cl false false false true ⟨5, by decide⟩
  simp only at f256
  generalize gf : fl 0 cl false false false true 5 = f at *
  replace gf := Lib.hid gf
  replace F := Lib.hid F
  have hn' : (n : Int) ≤ 65535 := by omega
  have kf := u8_nat f f256
  have kq := w_quo n hn
  have kr := w_rem n hn
  have Did := fun W => u_rput id W
  obtain ⟨eid, gid⟩ : ∃ E, E = textE id := ⟨_, rfl⟩
  rw [← gid] at Did
  replace Did := Lib.hid Did
  have lid := uL_len id
  have Du := fun W => u_rput u W
  obtain ⟨eu, gu⟩ : ∃ E, E = textE u := ⟨_, rfl⟩
  rw [← gu] at Du
  replace Du := Lib.hid Du
  have lu := uL_len u
  have X0 : (h : eid ≠ 0) → fin (gat [([0, 4, 77, 81, 84, 84], 0), ([4, f], 0), ([n / 256, n % 256], 0), (uL id, textE id), (uL u, textE u)]) = ([], eid) := by
    intro h
    unfold gat; simp only [List.foldl]; rw [st_ok, st_ok, st_ok, hd_eq, st_ok, ← gid, st_er _ _ _ h]
    exact fin_er _ _ h
  have X1 : (h0 : eid = 0) → (h : eu ≠ 0) → fin (gat [([0, 4, 77, 81, 84, 84], 0), ([4, f], 0), ([n / 256, n % 256], 0), (uL id, textE id), (uL u, textE u)]) = ([], eu) := by
    intro h0 h
    unfold gat; simp only [List.foldl]; rw [st_ok, st_ok, st_ok, hd_eq, st_ok, ← gid, h0, st_ok, ← gu]
    exact fin_er _ _ h
  have XX : (h0 : eid = 0) → (h1 : eu = 0) →  gat [([0, 4, 77, 81, 84, 84], 0), ([4, f], 0), ([n / 256, n % 256], 0), (uL id, textE id), (uL u, textE u)] = (hd f n ++ uL id ++ uL u, 0) := by
    intro h0 h1
    unfold gat; simp only [List.foldl]; rw [st_ok, st_ok, st_ok, hd_eq, st_ok, ← gid, h0, st_ok, ← gu, h1]
  replace X0 := Lib.hid X0
  replace X1 := Lib.hid X1
  replace XX := Lib.hid XX
  replace gid := Lib.hid gid
  replace gu := Lib.hid gu
  unfold con at R F ⊢
  have k0 : Blk (w.alloc (.cells #[.int .i64 4, .bool cl, .int .i64 (n : Nat), .string id, .bool false, .string ⟨#[]⟩, .string ⟨#[]⟩, .int .i64 0, .bool false, .bool true, .string u, .bool false, .string ⟨#[]⟩] 45)) w.heap.size 45 _ := Blk.new w 45 _
  have b0 := ext_alloc w (.cells #[.int .i64 4, .bool cl, .int .i64 (n : Nat), .string id, .bool false, .string ⟨#[]⟩, .string ⟨#[]⟩, .int .i64 0, .bool false, .bool true, .string u, .bool false, .string ⟨#[]⟩] 45)
  replace b0 := Lib.hid b0
  replace k0 := Lib.hid k0
  obtain ⟨i0, hi, hz0, hz1, hz2⟩ := info_parts info5
  go_enter Try.func24, Try.ntmps24
  go_wp2_with fail
  refine (R.out _).mono ?_
  rintro e w1 ⟨rfl, b1⟩
  have k1 := k0.out.ext b1
  have B1 : Below w.heap.size w w1 := ext_trans b0.out b1
  have z1 : w.heap.size < w1.heap.size := by have := b1.size; simp at this; omega
  have c0 : w1.cell? ⟨w.heap.size, 0, none⟩ = some (.int .i64 4) := (k1.cell 0).trans rfl
  have c1 : w1.cell? ⟨w.heap.size, 1, none⟩ = some (.bool cl) := (k1.cell 1).trans rfl
  have c2 : w1.cell? ⟨w.heap.size, 2, none⟩ = some (.int .i64 (n : Nat)) := (k1.cell 2).trans rfl
  have c3 : w1.cell? ⟨w.heap.size, 3, none⟩ = some (.string id) := (k1.cell 3).trans rfl
  have c4 : w1.cell? ⟨w.heap.size, 4, none⟩ = some (.bool false) := (k1.cell 4).trans rfl
  have c5 : w1.cell? ⟨w.heap.size, 5, none⟩ = some (.string ⟨#[]⟩) := (k1.cell 5).trans rfl
  have c6 : w1.cell? ⟨w.heap.size, 6, none⟩ = some (.string ⟨#[]⟩) := (k1.cell 6).trans rfl
  have c7 : w1.cell? ⟨w.heap.size, 7, none⟩ = some (.int .i64 0) := (k1.cell 7).trans rfl
  have c8 : w1.cell? ⟨w.heap.size, 8, none⟩ = some (.bool false) := (k1.cell 8).trans rfl
  have c9 : w1.cell? ⟨w.heap.size, 9, none⟩ = some (.bool true) := (k1.cell 9).trans rfl
  have c10 : w1.cell? ⟨w.heap.size, 10, none⟩ = some (.string u) := (k1.cell 10).trans rfl
  have c11 : w1.cell? ⟨w.heap.size, 11, none⟩ = some (.bool false) := (k1.cell 11).trans rfl
  have c12 : w1.cell? ⟨w.heap.size, 12, none⟩ = some (.string ⟨#[]⟩) := (k1.cell 12).trans rfl
  replace k1 := Lib.hid k1
  replace b1 := Lib.hid b1
  replace B1 := Lib.hid B1
  replace hi := Lib.hid hi
  replace hz0 := Lib.hid hz0
  replace hz1 := Lib.hid hz1
  replace hz2 := Lib.hid hz2
  go_wp2_with fail
  go_region_held3 (fun W => W.cell? ⟨w.heap.size, 0, none⟩ = some (.int .i64 4) ∧ W.cell? ⟨w.heap.size, 1, none⟩ = some (.bool cl) ∧ W.cell? ⟨w.heap.size, 2, none⟩ = some (.int .i64 (n : Nat)) ∧ W.cell? ⟨w.heap.size, 3, none⟩ = some (.string id) ∧ W.cell? ⟨w.heap.size, 4, none⟩ = some (.bool false) ∧ W.cell? ⟨w.heap.size, 5, none⟩ = some (.string ⟨#[]⟩) ∧ W.cell? ⟨w.heap.size, 6, none⟩ = some (.string ⟨#[]⟩) ∧ W.cell? ⟨w.heap.size, 7, none⟩ = some (.int .i64 0) ∧ W.cell? ⟨w.heap.size, 8, none⟩ = some (.bool false) ∧ W.cell? ⟨w.heap.size, 9, none⟩ = some (.bool true) ∧ W.cell? ⟨w.heap.size, 10, none⟩ = some (.string u) ∧ W.cell? ⟨w.heap.size, 11, none⟩ = some (.bool false) ∧ W.cell? ⟨w.heap.size, 12, none⟩ = some (.string ⟨#[]⟩)) (go_keep)
    (first | (go_at_call 60; refine (F.out _).mono ?_; rintro e w' ⟨rfl, rfl⟩))
  clear c0 c1 c2 c3 c4 c5 c6 c7 c8 c9 c10 c11 c12
  clear kq kr kf
  have o2 := (lit_own (w1.alloc (.cells #[.int .i64 4, .bool cl, .int .i64 (n : Nat), .string id, .bool false, .string ⟨#[]⟩, .string ⟨#[]⟩, .int .i64 0, .bool false, .bool true, .string u, .bool false, .string ⟨#[]⟩] 45)) f n).drew
  have k2 := ((k1.out.alloc (.cells #[.int .i64 4, .bool cl, .int .i64 (n : Nat), .string id, .bool false, .string ⟨#[]⟩, .string ⟨#[]⟩, .int .i64 0, .bool false, .bool true, .string u, .bool false, .string ⟨#[]⟩] 45)).alloc (.cells #[.int .u8 0, .int .u8 4, .int .u8 77, .int .u8 81, .int .u8 84, .int .u8 84, .int .u8 4, .int .u8 (f : Nat), .int .u8 ((n : Int) / 256), .int .u8 ((n : Int) % 256)] 5)).drew
  have B2 := ((B1.out.alloc (by omega) (.cells #[.int .i64 4, .bool cl, .int .i64 (n : Nat), .string id, .bool false, .string ⟨#[]⟩, .string ⟨#[]⟩, .int .i64 0, .bool false, .bool true, .string u, .bool false, .string ⟨#[]⟩] 45)).alloc (by simp; omega) (.cells #[.int .u8 0, .int .u8 4, .int .u8 77, .int .u8 81, .int .u8 84, .int .u8 84, .int .u8 4, .int .u8 (f : Nat), .int .u8 ((n : Int) / 256), .int .u8 ((n : Int) % 256)] 5)).drew
  have y2 : w1.heap.size + 1 < (((w1.alloc (.cells #[.int .i64 4, .bool cl, .int .i64 (n : Nat), .string id, .bool false, .string ⟨#[]⟩, .string ⟨#[]⟩, .int .i64 0, .bool false, .bool true, .string u, .bool false, .string ⟨#[]⟩] 45)).alloc (.cells #[.int .u8 0, .int .u8 4, .int .u8 77, .int .u8 81, .int .u8 84, .int .u8 84, .int .u8 4, .int .u8 (f : Nat), .int .u8 ((n : Int) / 256), .int .u8 ((n : Int) % 256)] 5)).drew).heap.size := by simp
  rw [show (w1.alloc (.cells #[.int .i64 4, .bool cl, .int .i64 (n : Nat), .string id, .bool false, .string ⟨#[]⟩, .string ⟨#[]⟩, .int .i64 0, .bool false, .bool true, .string u, .bool false, .string ⟨#[]⟩] 45)).heap.size = w1.heap.size + 1 by simp] at o2
  generalize (((w1.alloc (.cells #[.int .i64 4, .bool cl, .int .i64 (n : Nat), .string id, .bool false, .string ⟨#[]⟩, .string ⟨#[]⟩, .int .i64 0, .bool false, .bool true, .string u, .bool false, .string ⟨#[]⟩] 45)).alloc (.cells #[.int .u8 0, .int .u8 4, .int .u8 77, .int .u8 81, .int .u8 84, .int .u8 84, .int .u8 4, .int .u8 (f : Nat), .int .u8 ((n : Int) / 256), .int .u8 ((n : Int) % 256)] 5)).drew) = w2 at *
  have c2_3 : w2.cell? ⟨w.heap.size, 3, none⟩ = some (.string id) := (k2.cell 3).trans rfl
  replace o2 := Lib.hid o2
  replace k2 := Lib.hid k2
  replace B2 := Lib.hid B2
  go_wp2_with fail
  refine (Did.out _).mono ?_
  rintro e w3 ⟨v3, rfl, a3, b3⟩
  have o3 := own_below o2.out b3
  have k3 := k2.out.ext b3
  have B3 := ext_trans B2.out b3
  have y3 : w1.heap.size + 1 ≤ w3.heap.size := by have := b3.size; omega
  clear c2_3 b3
  replace k3 := Lib.hid k3
  replace B3 := Lib.hid B3
  by_cases h0 : eid ≠ 0
  · have h' : (eid != 0) = true := by simpa using h0
    have hf := Lib.hid (X0.out  h0)
    replace h0 := Lib.hid h0
    clear o3 a3
    go_wp2_with fail
    go_ret2
    rw [hf.out]
    exact ⟨_, rfl, nil_bytes _, B3.out⟩
  replace h0 : eid = 0 := by omega
  have h'0 : (eid != 0) = false := by rw [h0]; rfl
  replace h0 := Lib.hid h0
  go_wp2_with (at_builtin; go_must (refine wpList_append_bytes _ rfl (.tmp 39) (.tmp 40) 24 rfl (w1.heap.size + 1) 5 i0 Try.underlying24 hi.out hz0.out hz1.out hz2.out (.slice (some ⟨w1.heap.size + 1, 0, none⟩) 10 10) (hd f n) (uL id) rfl o3 a3 (by simp only [List.length_append, hd, List.length_cons, List.length_nil]; omega) y3 ?_); intro v4 w4 o4 g4 n4; clear n4; have x4 : Below (w1.heap.size + 1) w3 w4 := grown_ext o3 g4 y3; have k4 := k3.out.below x4 (by omega); have B4 := B3.out.trans (x4.mono (by omega)); have c4_4 : w4.cell? ⟨w.heap.size, 4, none⟩ = some (.bool false) := (k4.cell 4).trans rfl; have c4_9 : w4.cell? ⟨w.heap.size, 9, none⟩ = some (.bool true) := (k4.cell 9).trans rfl; have c4_10 : w4.cell? ⟨w.heap.size, 10, none⟩ = some (.string u) := (k4.cell 10).trans rfl; have y4 : w1.heap.size + 1 ≤ w4.heap.size := (by have := x4.size; omega); clear o3 a3 g4 x4; replace o4 := Lib.hid o4; replace k4 := Lib.hid k4; replace B4 := Lib.hid B4)
  refine (Du.out _).mono ?_
  rintro e w5 ⟨v5, rfl, a5, b5⟩
  have o5 := own_below o4.out b5
  have k5 := k4.out.ext b5
  have B5 := ext_trans B4.out b5
  have y5 : w1.heap.size + 1 ≤ w5.heap.size := by have := b5.size; omega
  clear c4_4 c4_9 c4_10 b5
  replace k5 := Lib.hid k5
  replace B5 := Lib.hid B5
  by_cases h1 : eu ≠ 0
  · have h' : (eu != 0) = true := by simpa using h1
    have hf := Lib.hid (X1.out h0.out h1)
    replace h1 := Lib.hid h1
    clear o5 a5
    go_wp2_with fail
    go_ret2
    rw [hf.out]
    exact ⟨_, rfl, nil_bytes _, B5.out⟩
  replace h1 : eu = 0 := by omega
  have h'1 : (eu != 0) = false := by rw [h1]; rfl
  replace h1 := Lib.hid h1
  go_wp2_with (at_builtin; go_must (refine wpList_append_bytes _ rfl (.tmp 81) (.tmp 82) 24 rfl (w1.heap.size + 1) 5 i0 Try.underlying24 hi.out hz0.out hz1.out hz2.out v4 (hd f n ++ uL id) (uL u) rfl o5 a5 (by simp only [List.length_append, hd, List.length_cons, List.length_nil]; omega) y5 ?_); intro v6 w6 o6 g6 n6; clear n6; have x6 : Below (w1.heap.size + 1) w5 w6 := grown_ext o5 g6 y5; have k6 := k5.out.below x6 (by omega); have B6 := B5.out.trans (x6.mono (by omega)); have c6_11 : w6.cell? ⟨w.heap.size, 11, none⟩ = some (.bool false) := (k6.cell 11).trans rfl; have y6 : w1.heap.size + 1 ≤ w6.heap.size := (by have := x6.size; omega); clear o5 a5 g6 x6; replace o6 := Lib.hid o6; replace k6 := Lib.hid k6; replace B6 := Lib.hid B6; obtain ⟨lf, hlf⟩ : ∃ lf, lf = hd f n ++ uL id ++ uL u := ⟨_, rfl⟩; have hb : lf.length ≤ 131084 := (by rw [hlf]; simp only [List.length_append, hd, List.length_cons, List.length_nil]; omega); have of := o6.out; rw [← hlf] at of; replace hlf := Lib.hid hlf; obtain ⟨af, cf, rfl⟩ := own_slice of; replace of := Lib.hid of)
  · have hl : 4096 < lf.length := by omega
    go_ret2
    rw [XX.out h0.out h1.out, ← hlf.out, fin_long _ hl]
    exact ⟨_, rfl, nil_bytes _, B6.out⟩
  · have hl : ¬ 4096 < lf.length := by omega
    go_ret2
    rw [XX.out h0.out h1.out, ← hlf.out, fin_ok _ hl]
    exact ⟨_, rfl, BytesAt.of_own of.out, B6.out⟩
set_option maxHeartbeats 4000000 in
set_option maxRecDepth 100000 in
theorem rcput_fff (cl : Bool) (n : Nat) (id : ByteArray) (w : World) (hn : n ≤ 65535) (h0 : conE 4 (n : Nat) false ⟨#[]⟩ ⟨#[]⟩ 0 false false ⟨#[]⟩ false ⟨#[]⟩ = 0) :
    Calls Try.prog 24 #[con 4 cl (n : Nat) id false ⟨#[]⟩ ⟨#[]⟩ 0 false false ⟨#[]⟩ false ⟨#[]⟩] w (Numb (fin (gat [([0, 4, 77, 81, 84, 84], 0), ([4, fl 0 cl false false false false 5], 0), ([n / 256, n % 256], 0), (uL id, textE id)])).1 (fin (gat [([0, 4, 77, 81, 84, 84], 0), ([4, fl 0 cl false false false false 5], 0), ([n / 256, n % 256], 0), (uL id, textE id)])).2 w) := by
  have R := fun W => wrongs59 4 cl n id false ⟨#[]⟩ ⟨#[]⟩ 0 false false ⟨#[]⟩ false ⟨#[]⟩ W
  rw [h0] at R
  replace R := Lib.hid R
  clear h0
  have F := fun W => rflags_n 4 cl n id false ⟨#[]⟩ false ⟨#[]⟩ W
  have f256 := fl_lt ⟨0, by decide⟩ cl false false false false ⟨5, by decide⟩
  simp only at f256
  generalize gf : fl 0 cl false false false false 5 = f at *
  replace gf := Lib.hid gf
  replace F := Lib.hid F
  have hn' : (n : Int) ≤ 65535 := by omega
  have kf := u8_nat f f256
  have kq := w_quo n hn
  have kr := w_rem n hn
  have Did := fun W => u_rput id W
  obtain ⟨eid, gid⟩ : ∃ E, E = textE id := ⟨_, rfl⟩
  rw [← gid] at Did
  replace Did := Lib.hid Did
  have lid := uL_len id
  have X0 : (h : eid ≠ 0) → fin (gat [([0, 4, 77, 81, 84, 84], 0), ([4, f], 0), ([n / 256, n % 256], 0), (uL id, textE id)]) = ([], eid) := by
    intro h
    unfold gat; simp only [List.foldl]; rw [st_ok, st_ok, st_ok, hd_eq, st_ok, ← gid]
    exact fin_er _ _ h
  have XX : (h0 : eid = 0) →  gat [([0, 4, 77, 81, 84, 84], 0), ([4, f], 0), ([n / 256, n % 256], 0), (uL id, textE id)] = (hd f n ++ uL id, 0) := by
    intro h0
    unfold gat; simp only [List.foldl]; rw [st_ok, st_ok, st_ok, hd_eq, st_ok, ← gid, h0]
  replace X0 := Lib.hid X0
  replace XX := Lib.hid XX
  replace gid := Lib.hid gid
  unfold con at R F ⊢
  have k0 : Blk (w.alloc (.cells #[.int .i64 4, .bool cl, .int .i64 (n : Nat), .string id, .bool false, .string ⟨#[]⟩, .string ⟨#[]⟩, .int .i64 0, .bool false, .bool false, .string ⟨#[]⟩, .bool false, .string ⟨#[]⟩] 45)) w.heap.size 45 _ := Blk.new w 45 _
  have b0 := ext_alloc w (.cells #[.int .i64 4, .bool cl, .int .i64 (n : Nat), .string id, .bool false, .string ⟨#[]⟩, .string ⟨#[]⟩, .int .i64 0, .bool false, .bool false, .string ⟨#[]⟩, .bool false, .string ⟨#[]⟩] 45)
  replace b0 := Lib.hid b0
  replace k0 := Lib.hid k0
  obtain ⟨i0, hi, hz0, hz1, hz2⟩ := info_parts info5
  go_enter Try.func24, Try.ntmps24
  go_wp2_with fail
  refine (R.out _).mono ?_
  rintro e w1 ⟨rfl, b1⟩
  have k1 := k0.out.ext b1
  have B1 : Below w.heap.size w w1 := ext_trans b0.out b1
  have z1 : w.heap.size < w1.heap.size := by have := b1.size; simp at this; omega
  have c0 : w1.cell? ⟨w.heap.size, 0, none⟩ = some (.int .i64 4) := (k1.cell 0).trans rfl
  have c1 : w1.cell? ⟨w.heap.size, 1, none⟩ = some (.bool cl) := (k1.cell 1).trans rfl
  have c2 : w1.cell? ⟨w.heap.size, 2, none⟩ = some (.int .i64 (n : Nat)) := (k1.cell 2).trans rfl
  have c3 : w1.cell? ⟨w.heap.size, 3, none⟩ = some (.string id) := (k1.cell 3).trans rfl
  have c4 : w1.cell? ⟨w.heap.size, 4, none⟩ = some (.bool false) := (k1.cell 4).trans rfl
  have c5 : w1.cell? ⟨w.heap.size, 5, none⟩ = some (.string ⟨#[]⟩) := (k1.cell 5).trans rfl
  have c6 : w1.cell? ⟨w.heap.size, 6, none⟩ = some (.string ⟨#[]⟩) := (k1.cell 6).trans rfl
  have c7 : w1.cell? ⟨w.heap.size, 7, none⟩ = some (.int .i64 0) := (k1.cell 7).trans rfl
  have c8 : w1.cell? ⟨w.heap.size, 8, none⟩ = some (.bool false) := (k1.cell 8).trans rfl
  have c9 : w1.cell? ⟨w.heap.size, 9, none⟩ = some (.bool false) := (k1.cell 9).trans rfl
  have c10 : w1.cell? ⟨w.heap.size, 10, none⟩ = some (.string ⟨#[]⟩) := (k1.cell 10).trans rfl
  have c11 : w1.cell? ⟨w.heap.size, 11, none⟩ = some (.bool false) := (k1.cell 11).trans rfl
  have c12 : w1.cell? ⟨w.heap.size, 12, none⟩ = some (.string ⟨#[]⟩) := (k1.cell 12).trans rfl
  replace k1 := Lib.hid k1
  replace b1 := Lib.hid b1
  replace B1 := Lib.hid B1
  replace hi := Lib.hid hi
  replace hz0 := Lib.hid hz0
  replace hz1 := Lib.hid hz1
  replace hz2 := Lib.hid hz2
  go_wp2_with fail
  go_region_held3 (fun W => W.cell? ⟨w.heap.size, 0, none⟩ = some (.int .i64 4) ∧ W.cell? ⟨w.heap.size, 1, none⟩ = some (.bool cl) ∧ W.cell? ⟨w.heap.size, 2, none⟩ = some (.int .i64 (n : Nat)) ∧ W.cell? ⟨w.heap.size, 3, none⟩ = some (.string id) ∧ W.cell? ⟨w.heap.size, 4, none⟩ = some (.bool false) ∧ W.cell? ⟨w.heap.size, 5, none⟩ = some (.string ⟨#[]⟩) ∧ W.cell? ⟨w.heap.size, 6, none⟩ = some (.string ⟨#[]⟩) ∧ W.cell? ⟨w.heap.size, 7, none⟩ = some (.int .i64 0) ∧ W.cell? ⟨w.heap.size, 8, none⟩ = some (.bool false) ∧ W.cell? ⟨w.heap.size, 9, none⟩ = some (.bool false) ∧ W.cell? ⟨w.heap.size, 10, none⟩ = some (.string ⟨#[]⟩) ∧ W.cell? ⟨w.heap.size, 11, none⟩ = some (.bool false) ∧ W.cell? ⟨w.heap.size, 12, none⟩ = some (.string ⟨#[]⟩)) (go_keep)
    (first | (go_at_call 60; refine (F.out _).mono ?_; rintro e w' ⟨rfl, rfl⟩))
  clear c0 c1 c2 c3 c4 c5 c6 c7 c8 c9 c10 c11 c12
  clear kq kr kf
  have o2 := (lit_own (w1.alloc (.cells #[.int .i64 4, .bool cl, .int .i64 (n : Nat), .string id, .bool false, .string ⟨#[]⟩, .string ⟨#[]⟩, .int .i64 0, .bool false, .bool false, .string ⟨#[]⟩, .bool false, .string ⟨#[]⟩] 45)) f n).drew
  have k2 := ((k1.out.alloc (.cells #[.int .i64 4, .bool cl, .int .i64 (n : Nat), .string id, .bool false, .string ⟨#[]⟩, .string ⟨#[]⟩, .int .i64 0, .bool false, .bool false, .string ⟨#[]⟩, .bool false, .string ⟨#[]⟩] 45)).alloc (.cells #[.int .u8 0, .int .u8 4, .int .u8 77, .int .u8 81, .int .u8 84, .int .u8 84, .int .u8 4, .int .u8 (f : Nat), .int .u8 ((n : Int) / 256), .int .u8 ((n : Int) % 256)] 5)).drew
  have B2 := ((B1.out.alloc (by omega) (.cells #[.int .i64 4, .bool cl, .int .i64 (n : Nat), .string id, .bool false, .string ⟨#[]⟩, .string ⟨#[]⟩, .int .i64 0, .bool false, .bool false, .string ⟨#[]⟩, .bool false, .string ⟨#[]⟩] 45)).alloc (by simp; omega) (.cells #[.int .u8 0, .int .u8 4, .int .u8 77, .int .u8 81, .int .u8 84, .int .u8 84, .int .u8 4, .int .u8 (f : Nat), .int .u8 ((n : Int) / 256), .int .u8 ((n : Int) % 256)] 5)).drew
  have y2 : w1.heap.size + 1 < (((w1.alloc (.cells #[.int .i64 4, .bool cl, .int .i64 (n : Nat), .string id, .bool false, .string ⟨#[]⟩, .string ⟨#[]⟩, .int .i64 0, .bool false, .bool false, .string ⟨#[]⟩, .bool false, .string ⟨#[]⟩] 45)).alloc (.cells #[.int .u8 0, .int .u8 4, .int .u8 77, .int .u8 81, .int .u8 84, .int .u8 84, .int .u8 4, .int .u8 (f : Nat), .int .u8 ((n : Int) / 256), .int .u8 ((n : Int) % 256)] 5)).drew).heap.size := by simp
  rw [show (w1.alloc (.cells #[.int .i64 4, .bool cl, .int .i64 (n : Nat), .string id, .bool false, .string ⟨#[]⟩, .string ⟨#[]⟩, .int .i64 0, .bool false, .bool false, .string ⟨#[]⟩, .bool false, .string ⟨#[]⟩] 45)).heap.size = w1.heap.size + 1 by simp] at o2
  generalize (((w1.alloc (.cells #[.int .i64 4, .bool cl, .int .i64 (n : Nat), .string id, .bool false, .string ⟨#[]⟩, .string ⟨#[]⟩, .int .i64 0, .bool false, .bool false, .string ⟨#[]⟩, .bool false, .string ⟨#[]⟩] 45)).alloc (.cells #[.int .u8 0, .int .u8 4, .int .u8 77, .int .u8 81, .int .u8 84, .int .u8 84, .int .u8 4, .int .u8 (f : Nat), .int .u8 ((n : Int) / 256), .int .u8 ((n : Int) % 256)] 5)).drew) = w2 at *
  have c2_3 : w2.cell? ⟨w.heap.size, 3, none⟩ = some (.string id) := (k2.cell 3).trans rfl
  replace o2 := Lib.hid o2
  replace k2 := Lib.hid k2
  replace B2 := Lib.hid B2
  go_wp2_with fail
  refine (Did.out _).mono ?_
  rintro e w3 ⟨v3, rfl, a3, b3⟩
  have o3 := own_below o2.out b3
  have k3 := k2.out.ext b3
  have B3 := ext_trans B2.out b3
  have y3 : w1.heap.size + 1 ≤ w3.heap.size := by have := b3.size; omega
  clear c2_3 b3
  replace k3 := Lib.hid k3
  replace B3 := Lib.hid B3
  by_cases h0 : eid ≠ 0
  · have h' : (eid != 0) = true := by simpa using h0
    have hf := Lib.hid (X0.out  h0)
    replace h0 := Lib.hid h0
    clear o3 a3
    go_wp2_with fail
    go_ret2
    rw [hf.out]
    exact ⟨_, rfl, nil_bytes _, B3.out⟩
  replace h0 : eid = 0 := by omega
  have h'0 : (eid != 0) = false := by rw [h0]; rfl
  replace h0 := Lib.hid h0
  go_wp2_with (at_builtin; go_must (refine wpList_append_bytes _ rfl (.tmp 39) (.tmp 40) 24 rfl (w1.heap.size + 1) 5 i0 Try.underlying24 hi.out hz0.out hz1.out hz2.out (.slice (some ⟨w1.heap.size + 1, 0, none⟩) 10 10) (hd f n) (uL id) rfl o3 a3 (by simp only [List.length_append, hd, List.length_cons, List.length_nil]; omega) y3 ?_); intro v4 w4 o4 g4 n4; clear n4; have x4 : Below (w1.heap.size + 1) w3 w4 := grown_ext o3 g4 y3; have k4 := k3.out.below x4 (by omega); have B4 := B3.out.trans (x4.mono (by omega)); have c4_4 : w4.cell? ⟨w.heap.size, 4, none⟩ = some (.bool false) := (k4.cell 4).trans rfl; have c4_9 : w4.cell? ⟨w.heap.size, 9, none⟩ = some (.bool false) := (k4.cell 9).trans rfl; have c4_11 : w4.cell? ⟨w.heap.size, 11, none⟩ = some (.bool false) := (k4.cell 11).trans rfl; have y4 : w1.heap.size + 1 ≤ w4.heap.size := (by have := x4.size; omega); clear o3 a3 g4 x4; replace o4 := Lib.hid o4; replace k4 := Lib.hid k4; replace B4 := Lib.hid B4; obtain ⟨lf, hlf⟩ : ∃ lf, lf = hd f n ++ uL id := ⟨_, rfl⟩; have hb : lf.length ≤ 65547 := (by rw [hlf]; simp only [List.length_append, hd, List.length_cons, List.length_nil]; omega); have of := o4.out; rw [← hlf] at of; replace hlf := Lib.hid hlf; obtain ⟨af, cf, rfl⟩ := own_slice of; replace of := Lib.hid of)
  · have hl : 4096 < lf.length := by omega
    go_ret2
    rw [XX.out h0.out, ← hlf.out, fin_long _ hl]
    exact ⟨_, rfl, nil_bytes _, B4.out⟩
  · have hl : ¬ 4096 < lf.length := by omega
    go_ret2
    rw [XX.out h0.out, ← hlf.out, fin_ok _ hl]
    exact ⟨_, rfl, BytesAt.of_own of.out, B4.out⟩
end Go.Proofs.Ytkihhnndidaloaa

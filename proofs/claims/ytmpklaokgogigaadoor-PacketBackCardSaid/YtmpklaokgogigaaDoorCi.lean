/-
  LAYER 13: who comes, laid by the program.
-/
import Derived.Test.YtmpklaokgogigaaDoorCf
namespace Go.Proofs.YtmpklaokgogigaaDoor
set_option linter.unusedSimpArgs false
set_option linter.unusedVariables false
open Go.RowKit

theorem nil_bytes (w : World) : BytesAt w (.slice none 0 0) [] := ⟨none, 0, rfl, ⟨by simp, fun _ => rfl⟩, .inl rfl⟩
theorem numb_nil {P : Program} {f : FuncId} {args : Array Value} {w : World} {E : Int} (h : Calls P f args w fun e w' => e = .returned (.tuple #[.slice none 0 0, .int .i64 E]) ∧ w = w') : Calls P f args w (Numb [] E w) :=
  h.mono fun _ _ ⟨he, hw⟩ => by subst hw; exact ⟨_, he, nil_bytes _, Below.refl _ _⟩
theorem numb_nilb {P : Program} {f : FuncId} {args : Array Value} {w : World} {E : Int} (h : Calls P f args w fun e w' => e = .returned (.tuple #[.slice none 0 0, .int .i64 E]) ∧ Below w.heap.size w w') : Calls P f args w (Numb [] E w) :=
  h.mono fun _ _ ⟨he, hb⟩ => ⟨_, he, nil_bytes _, hb⟩
theorem numb_put {P : Program} {f : FuncId} {args : Array Value} {w : World} {s : ByteArray} (h : Calls P f args w (PutPost s w)) : Calls P f args w (Numb (rawL s) 0 w) :=
  h.mono fun _ _ ⟨v, he, ho, hb⟩ => ⟨v, he, BytesAt.of_own ho, hb⟩
/-- The bytes of a text, and of any bytes; the errors are textE and laidE. -/
def uL (s : ByteArray) : List Nat := if 65535 < s.size then [] else if rightB s = true then rawL s else []
def rL (s : ByteArray) : List Nat := if 65535 < s.size then [] else rawL s
theorem uL_len (s : ByteArray) : (uL s).length ≤ 65537 := by
  unfold uL
  split
  · simp
  · split
    · rw [rawL_length]; omega
    · simp
theorem rL_len (s : ByteArray) : (rL s).length ≤ 65537 := by
  unfold rL
  split
  · simp
  · rw [rawL_length]; omega
theorem u_put (s : ByteArray) (w : World) : Calls Tryd.prog 96 #[.string s] w (Numb (uL s) (textE s) w) := by
  unfold uL textE
  by_cases h : 65535 < s.size
  · rw [if_pos h, if_pos h]
    first | exact numb_nil (put_long s w h) | exact numb_nilb (put_long s w h)
  · rw [if_neg h, if_neg h]
    by_cases r : rightB s = true
    · rw [if_pos r, if_pos r]
      exact numb_put (put_ok s w (by omega) r)
    · rw [if_neg r, if_neg r]
      have r' : rightB s = false := by simpa using r
      first | exact numb_nilb (put_bad s w (by omega) r') | exact numb_nil (put_bad s w (by omega) r')
theorem u_raw (s : ByteArray) (w : World) : Calls Tryd.prog 98 #[.string s] w (Numb (rL s) (laidE s) w) := by
  unfold rL laidE
  by_cases h : 65535 < s.size
  · rw [if_pos h, if_pos h]
    first | exact numb_nil (putraw_long s w h) | exact numb_nilb (putraw_long s w h)
  · rw [if_neg h, if_neg h]
    exact numb_put (putraw_any s w (by omega))
theorem u_two (n : Nat) (w : World) (h : n ≤ 65535) : Calls Tryd.prog 91 #[.int .i64 n] w (Numb [n / 256, n % 256] 0 w) :=
  (put2_any n w h).mono fun _ _ ⟨he, hw⟩ => by subst hw; exact ⟨_, he, lit_two w _ _, ext_alloc _ _⟩

/-- What is gathered: the bytes, and the first error. -/
def st (S P : List Nat × Int) : List Nat × Int := (if S.2 = 0 then S.1 ++ P.1 else S.1, if S.2 = 0 then P.2 else S.2)
theorem st_len (S P : List Nat × Int) : (st S P).1.length ≤ S.1.length + P.1.length := by
  unfold st
  split <;> simp
def gat (l : List (List Nat × Int)) : List Nat × Int := l.foldl st ([], 0)
def fin (S : List Nat × Int) : List Nat × Int := if S.2 ≠ 0 then ([], S.2) else if 4096 < S.1.length then ([], 3) else S
theorem wr_new (w : World) : Wr (w.alloc (.cells #[.slice none 0 0, .int .i64 0] 139)) w.heap.size [] 0 :=
  ⟨_, Blk.new w 139 _, ⟨by simp [bl], .inl ⟨rfl, rfl⟩⟩⟩
theorem Wr.ext {w w' : World} {G : Nat} {l : List Nat} {E : Int} (h : Wr w G l E) (hb : Below w.heap.size w w') : Wr w' G l E := by
  obtain ⟨v, h1, h2⟩ := h
  exact ⟨v, h1.ext hb, own_below h2 hb⟩
theorem add_st (G : Nat) (S P : List Nat × Int) (vb : Value) (w : World) (h : Wr w G S.1 S.2) (hb : BytesAt w vb P.1) (hl : S.1.length + P.1.length ≤ 140737488355328) :
    Calls Tryd.prog 95 #[.pointer (some ⟨G, 0, none⟩), vb, .int .i64 P.2] w fun e w' => ∃ S', S' = st S P ∧ e = .returned (.tuple #[]) ∧ Wr w' G S'.1 S'.2 ∧ Below G w w' :=
  (add_any G S.1 P.1 S.2 P.2 vb w h hb hl).mono fun _ _ ⟨h1, h2, h3⟩ => ⟨_, rfl, h1, h2, h3⟩
def ccells (L : Int) (cl : Bool) (K : Int) (id : ByteArray) (hw : Bool) (wt wx : ByteArray) (wq : Int) (wr : Bool) (hu : Bool) (u : ByteArray) (hp : Bool) (p : ByteArray) : Array Value :=
  #[.int .i64 L, .bool cl, .int .i64 K, .string id, .bool hw, .string wt, .string wx, .int .i64 wq, .bool wr, .bool hu, .string u, .bool hp, .string p]
set_option maxHeartbeats 4000000 in
set_option maxRecDepth 100000 in
theorem cput_ttt (cl : Bool) (n : Nat) (id : ByteArray) (wt : ByteArray) (wx : ByteArray) (q : Nat) (rb : Bool) (u : ByteArray) (p : ByteArray) (w : World) (hn : n ≤ 65535) (hq : q < 3) (h0 : conE 4 (n : Nat) true wt wx (q : Nat) rb true u true p = 0) :
    Calls Tryd.prog 75 #[con 4 cl (n : Nat) id true wt wx (q : Nat) rb true u true p] w (Numb (fin (gat [([0, 4, 77, 81, 84, 84], 0), ([4, fl q cl true rb true true 5], 0), ([n / 256, n % 256], 0), (uL id, textE id), (uL wt, textE wt), (rL wx, laidE wx), (uL u, textE u), (rL p, laidE p)])).1 (fin (gat [([0, 4, 77, 81, 84, 84], 0), ([4, fl q cl true rb true true 5], 0), ([n / 256, n % 256], 0), (uL id, textE id), (uL wt, textE wt), (rL wx, laidE wx), (uL u, textE u), (rL p, laidE p)])).2 w) := by
  have R := fun W => wrongs55 4 cl (n : Nat) id true wt wx q rb true u true p W
  rw [h0] at R
  replace R := Lib.hid R
  clear h0
  have F := fun W => flags_any 4 cl (n : Nat) id true wt wx q rb true u true p W (by omega)
  replace F := Lib.hid F
  have hn' : (n : Int) ≤ 65535 := by omega
  unfold con at R F ⊢
  obtain ⟨CS, hCS⟩ : ∃ CS : Array Value, CS = #[.int .i64 4, .bool cl, .int .i64 (n : Nat), .string id, .bool true, .string wt, .string wx, .int .i64 (q : Nat), .bool rb, .bool true, .string u, .bool true, .string p] := ⟨_, rfl⟩
  have k0 : Blk (w.alloc (.cells CS 29)) w.heap.size 29 CS := Blk.new w 29 CS
  have b0 := ext_alloc w (.cells CS 29)
  rw [hCS] at k0 b0
  clear hCS CS
  replace b0 := Lib.hid b0
  replace k0 := Lib.hid k0
  go_enter Tryd.func75, Tryd.ntmps75
  go_wp2_with fail
  refine (R.out _).mono ?_
  rintro e w1 ⟨rfl, b1⟩
  have k1 := k0.out.ext b1
  have B1 : Below w.heap.size w w1 := ext_trans b0.out b1
  have z1 : w.heap.size < w1.heap.size := by have := b1.size; simp at this; omega
  have r1 := wr_new w1
  have g1 : w1.heap.size < (w1.alloc (.cells #[.slice none 0 0, .int .i64 0] 139)).heap.size := by simp
  have y1 : Below w1.heap.size w1 (w1.alloc (.cells #[.slice none 0 0, .int .i64 0] 139)) := ext_alloc _ _
  have k1a := k1.ext y1
  clear b1
  replace k1 := Lib.hid k1
  replace k1a := Lib.hid k1a
  replace r1 := Lib.hid r1
  replace y1 := Lib.hid y1
  replace B1 := Lib.hid B1
  go_wp2_with fail
  refine (u_put ⟨#[77, 81, 84, 84]⟩ _).mono ?_
  rintro e w2 ⟨v2, rfl, a2, b2⟩
  have mq : uL ⟨#[77, 81, 84, 84]⟩ = [0, 4, 77, 81, 84, 84] := by decide +kernel
  rw [mq] at a2
  clear mq
  have me : textE ⟨#[77, 81, 84, 84]⟩ = 0 := by decide +kernel
  have k2 := k1a.out.ext b2
  have r2 := Wr.ext r1.out b2
  have y2 := ext_trans y1.out b2
  replace r2 := Lib.hid r2
  replace y2 := Lib.hid y2
  replace k2 := Lib.hid k2
  replace b2 := Lib.hid b2
  replace a2 := Lib.hid a2
  go_wp2_with fail
  refine (add_st w1.heap.size ([], 0) ([0, 4, 77, 81, 84, 84], 0) v2 _ r2.out a2.out (by decide)).mono ?_
  rintro e w3 ⟨S0, q0, rfl, r3, b3⟩
  have t0 : S0.1.length ≤ 6 := by rw [q0]; refine Nat.le_trans (st_len _ _) ?_; simp only [List.length_cons, List.length_nil]; omega
  have k3 := k2.out.below b3 z1
  have y3 := y2.out.trans b3
  clear b3 a2 r2 y2 k2
  have c3_0 : w3.cell? ⟨w.heap.size, 0, none⟩ = some (.int .i64 4) := (k3.cell 0).trans rfl
  have c3_1 : w3.cell? ⟨w.heap.size, 1, none⟩ = some (.bool cl) := (k3.cell 1).trans rfl
  have c3_2 : w3.cell? ⟨w.heap.size, 2, none⟩ = some (.int .i64 (n : Nat)) := (k3.cell 2).trans rfl
  have c3_3 : w3.cell? ⟨w.heap.size, 3, none⟩ = some (.string id) := (k3.cell 3).trans rfl
  have c3_4 : w3.cell? ⟨w.heap.size, 4, none⟩ = some (.bool true) := (k3.cell 4).trans rfl
  have c3_5 : w3.cell? ⟨w.heap.size, 5, none⟩ = some (.string wt) := (k3.cell 5).trans rfl
  have c3_6 : w3.cell? ⟨w.heap.size, 6, none⟩ = some (.string wx) := (k3.cell 6).trans rfl
  have c3_7 : w3.cell? ⟨w.heap.size, 7, none⟩ = some (.int .i64 (q : Nat)) := (k3.cell 7).trans rfl
  have c3_8 : w3.cell? ⟨w.heap.size, 8, none⟩ = some (.bool rb) := (k3.cell 8).trans rfl
  have c3_9 : w3.cell? ⟨w.heap.size, 9, none⟩ = some (.bool true) := (k3.cell 9).trans rfl
  have c3_10 : w3.cell? ⟨w.heap.size, 10, none⟩ = some (.string u) := (k3.cell 10).trans rfl
  have c3_11 : w3.cell? ⟨w.heap.size, 11, none⟩ = some (.bool true) := (k3.cell 11).trans rfl
  have c3_12 : w3.cell? ⟨w.heap.size, 12, none⟩ = some (.string p) := (k3.cell 12).trans rfl
  replace k3 := Lib.hid k3
  replace r3 := Lib.hid r3
  replace y3 := Lib.hid y3
  replace q0 := Lib.hid q0
  go_wp2_with fail
  refine (F.out _).mono ?_
  rintro e w4 ⟨rfl, b4⟩
  have a4 := lit_two w4 4 (fl q cl true rb true true 5)
  have x4 := ext_alloc w4 (.cells #[.int .u8 ((4 : Nat) : Int), .int .u8 ((fl q cl true rb true true 5 : Nat) : Int)] 5)
  have b4 := ext_trans b4 x4
  clear x4
  have k4 := k3.out.ext b4
  have r4 := Wr.ext r3.out b4
  have y4 := ext_trans y3.out b4
  replace r4 := Lib.hid r4
  replace y4 := Lib.hid y4
  replace k4 := Lib.hid k4
  replace b4 := Lib.hid b4
  replace a4 := Lib.hid a4
  go_wp2_with fail
  refine (add_st w1.heap.size S0 ([4, fl q cl true rb true true 5], 0) _ _ r4.out a4.out (by simp only [List.length_cons, List.length_nil]; omega)).mono ?_
  rintro e w5 ⟨S1, q1, rfl, r5, b5⟩
  have t1 : S1.1.length ≤ 8 := by rw [q1]; refine Nat.le_trans (st_len _ _) ?_; simp only [List.length_cons, List.length_nil]; omega
  have k5 := k4.out.below b5 z1
  have y5 := y4.out.trans b5
  clear b5 a4 r4 y4 k4
  clear c3_0
  clear c3_1
  clear c3_2
  clear c3_3
  clear c3_4
  clear c3_5
  clear c3_6
  clear c3_7
  clear c3_8
  clear c3_9
  clear c3_10
  clear c3_11
  clear c3_12
  have c5_2 : w5.cell? ⟨w.heap.size, 2, none⟩ = some (.int .i64 (n : Nat)) := (k5.cell 2).trans rfl
  replace k5 := Lib.hid k5
  replace r5 := Lib.hid r5
  replace y5 := Lib.hid y5
  replace q1 := Lib.hid q1
  go_wp2_with fail
  refine (u_two n _ hn).mono ?_
  rintro e w6 ⟨v6, rfl, a6, b6⟩
  have k6 := k5.out.ext b6
  have r6 := Wr.ext r5.out b6
  have y6 := ext_trans y5.out b6
  replace r6 := Lib.hid r6
  replace y6 := Lib.hid y6
  replace k6 := Lib.hid k6
  replace b6 := Lib.hid b6
  replace a6 := Lib.hid a6
  go_wp2_with fail
  refine (add_st w1.heap.size S1 ([n / 256, n % 256], 0) v6 _ r6.out a6.out (by simp only [List.length_cons, List.length_nil]; omega)).mono ?_
  rintro e w7 ⟨S2, q2, rfl, r7, b7⟩
  have t2 : S2.1.length ≤ 10 := by rw [q2]; refine Nat.le_trans (st_len _ _) ?_; simp only [List.length_cons, List.length_nil]; omega
  have k7 := k6.out.below b7 z1
  have y7 := y6.out.trans b7
  clear b7 a6 r6 y6 k6
  clear c5_2
  have c7_3 : w7.cell? ⟨w.heap.size, 3, none⟩ = some (.string id) := (k7.cell 3).trans rfl
  replace k7 := Lib.hid k7
  replace r7 := Lib.hid r7
  replace y7 := Lib.hid y7
  replace q2 := Lib.hid q2
  go_wp2_with fail
  refine (u_put id _).mono ?_
  rintro e w8 ⟨v8, rfl, a8, b8⟩
  have k8 := k7.out.ext b8
  have r8 := Wr.ext r7.out b8
  have y8 := ext_trans y7.out b8
  replace r8 := Lib.hid r8
  replace y8 := Lib.hid y8
  replace k8 := Lib.hid k8
  replace b8 := Lib.hid b8
  replace a8 := Lib.hid a8
  have l8 := uL_len id
  go_wp2_with fail
  refine (add_st w1.heap.size S2 (uL id, textE id) v8 _ r8.out a8.out (by simp only [List.length_nil]; omega)).mono ?_
  rintro e w9 ⟨S3, q3, rfl, r9, b9⟩
  have t3 : S3.1.length ≤ 65547 := by rw [q3]; refine Nat.le_trans (st_len _ _) ?_; simp only [List.length_cons, List.length_nil]; omega
  have k9 := k8.out.below b9 z1
  have y9 := y8.out.trans b9
  clear b9 a8 r8 y8 k8
  clear c7_3
  have c9_4 : w9.cell? ⟨w.heap.size, 4, none⟩ = some (.bool true) := (k9.cell 4).trans rfl
  have c9_5 : w9.cell? ⟨w.heap.size, 5, none⟩ = some (.string wt) := (k9.cell 5).trans rfl
  replace k9 := Lib.hid k9
  replace r9 := Lib.hid r9
  replace y9 := Lib.hid y9
  replace q3 := Lib.hid q3
  go_wp2_with fail
  refine (u_put wt _).mono ?_
  rintro e w10 ⟨v10, rfl, a10, b10⟩
  have k10 := k9.out.ext b10
  have r10 := Wr.ext r9.out b10
  have y10 := ext_trans y9.out b10
  replace r10 := Lib.hid r10
  replace y10 := Lib.hid y10
  replace k10 := Lib.hid k10
  replace b10 := Lib.hid b10
  replace a10 := Lib.hid a10
  have l10 := uL_len wt
  go_wp2_with fail
  refine (add_st w1.heap.size S3 (uL wt, textE wt) v10 _ r10.out a10.out (by simp only [List.length_nil]; omega)).mono ?_
  rintro e w11 ⟨S4, q4, rfl, r11, b11⟩
  have t4 : S4.1.length ≤ 131084 := by rw [q4]; refine Nat.le_trans (st_len _ _) ?_; simp only [List.length_cons, List.length_nil]; omega
  have k11 := k10.out.below b11 z1
  have y11 := y10.out.trans b11
  clear b11 a10 r10 y10 k10
  clear c9_4
  clear c9_5
  have c11_6 : w11.cell? ⟨w.heap.size, 6, none⟩ = some (.string wx) := (k11.cell 6).trans rfl
  replace k11 := Lib.hid k11
  replace r11 := Lib.hid r11
  replace y11 := Lib.hid y11
  replace q4 := Lib.hid q4
  go_wp2_with fail
  refine (u_raw wx _).mono ?_
  rintro e w12 ⟨v12, rfl, a12, b12⟩
  have k12 := k11.out.ext b12
  have r12 := Wr.ext r11.out b12
  have y12 := ext_trans y11.out b12
  replace r12 := Lib.hid r12
  replace y12 := Lib.hid y12
  replace k12 := Lib.hid k12
  replace b12 := Lib.hid b12
  replace a12 := Lib.hid a12
  have l12 := rL_len wx
  go_wp2_with fail
  refine (add_st w1.heap.size S4 (rL wx, laidE wx) v12 _ r12.out a12.out (by simp only [List.length_nil]; omega)).mono ?_
  rintro e w13 ⟨S5, q5, rfl, r13, b13⟩
  have t5 : S5.1.length ≤ 196621 := by rw [q5]; refine Nat.le_trans (st_len _ _) ?_; simp only [List.length_cons, List.length_nil]; omega
  have k13 := k12.out.below b13 z1
  have y13 := y12.out.trans b13
  clear b13 a12 r12 y12 k12
  clear c11_6
  have c13_9 : w13.cell? ⟨w.heap.size, 9, none⟩ = some (.bool true) := (k13.cell 9).trans rfl
  have c13_10 : w13.cell? ⟨w.heap.size, 10, none⟩ = some (.string u) := (k13.cell 10).trans rfl
  replace k13 := Lib.hid k13
  replace r13 := Lib.hid r13
  replace y13 := Lib.hid y13
  replace q5 := Lib.hid q5
  go_wp2_with fail
  refine (u_put u _).mono ?_
  rintro e w14 ⟨v14, rfl, a14, b14⟩
  have k14 := k13.out.ext b14
  have r14 := Wr.ext r13.out b14
  have y14 := ext_trans y13.out b14
  replace r14 := Lib.hid r14
  replace y14 := Lib.hid y14
  replace k14 := Lib.hid k14
  replace b14 := Lib.hid b14
  replace a14 := Lib.hid a14
  have l14 := uL_len u
  go_wp2_with fail
  refine (add_st w1.heap.size S5 (uL u, textE u) v14 _ r14.out a14.out (by simp only [List.length_nil]; omega)).mono ?_
  rintro e w15 ⟨S6, q6, rfl, r15, b15⟩
  have t6 : S6.1.length ≤ 262158 := by rw [q6]; refine Nat.le_trans (st_len _ _) ?_; simp only [List.length_cons, List.length_nil]; omega
  have k15 := k14.out.below b15 z1
  have y15 := y14.out.trans b15
  clear b15 a14 r14 y14 k14
  clear c13_9
  clear c13_10
  have c15_11 : w15.cell? ⟨w.heap.size, 11, none⟩ = some (.bool true) := (k15.cell 11).trans rfl
  have c15_12 : w15.cell? ⟨w.heap.size, 12, none⟩ = some (.string p) := (k15.cell 12).trans rfl
  replace k15 := Lib.hid k15
  replace r15 := Lib.hid r15
  replace y15 := Lib.hid y15
  replace q6 := Lib.hid q6
  go_wp2_with fail
  refine (u_raw p _).mono ?_
  rintro e w16 ⟨v16, rfl, a16, b16⟩
  have k16 := k15.out.ext b16
  have r16 := Wr.ext r15.out b16
  have y16 := ext_trans y15.out b16
  replace r16 := Lib.hid r16
  replace y16 := Lib.hid y16
  replace k16 := Lib.hid k16
  replace b16 := Lib.hid b16
  replace a16 := Lib.hid a16
  have l16 := rL_len p
  go_wp2_with fail
  refine (add_st w1.heap.size S6 (rL p, laidE p) v16 _ r16.out a16.out (by simp only [List.length_nil]; omega)).mono ?_
  rintro e w17 ⟨S7, q7, rfl, r17, b17⟩
  have t7 : S7.1.length ≤ 327695 := by rw [q7]; refine Nat.le_trans (st_len _ _) ?_; simp only [List.length_cons, List.length_nil]; omega
  have k17 := k16.out.below b17 z1
  have y17 := y16.out.trans b17
  clear b17 a16 r16 y16 k16
  clear c15_11
  clear c15_12
  replace k17 := Lib.hid k17
  replace r17 := Lib.hid r17
  replace y17 := Lib.hid y17
  replace q7 := Lib.hid q7
  have hfin : gat [([0, 4, 77, 81, 84, 84], 0), ([4, fl q cl true rb true true 5], 0), ([n / 256, n % 256], 0), (uL id, textE id), (uL wt, textE wt), (rL wx, laidE wx), (uL u, textE u), (rL p, laidE p)] = S7 := by
    unfold gat
    simp only [List.foldl]
    rw [q7.out, q6.out, q5.out, q4.out, q3.out, q2.out, q1.out, q0.out]
  obtain ⟨l, E⟩ := S7
  replace hfin := Lib.hid hfin
  simp only at t7
  obtain ⟨vf, hB, hO⟩ := r17.out
  have d0 := hB.cell 0
  have d1 := hB.cell 1
  simp only [List.getElem?_toArray, List.getElem?_cons_zero, List.getElem?_cons_succ] at d0 d1
  have Bf : Below w.heap.size w w17 := B1.out.trans ((y17.out).mono (by omega))
  replace hO := Lib.hid hO
  replace hB := Lib.hid hB
  replace Bf := Lib.hid Bf
  by_cases hE : E = 0
  · subst hE
    obtain ⟨af, cf, rfl⟩ := own_slice hO.out
    by_cases hl : 4096 < l.length
    · have hl' : (4096 : Int) < l.length := by omega
      have hf : fin (l, 0) = ([], 3) := by unfold fin; rw [if_neg (by simp), if_pos hl]
      replace hf := Lib.hid hf
      go_wp2_with fail
      go_ret2
      rw [hfin.out, hf.out]
      exact ⟨_, rfl, nil_bytes _, Bf.out⟩
    · have hl' : (l.length : Int) ≤ 4096 := by omega
      have hf : fin (l, 0) = (l, 0) := by unfold fin; rw [if_neg (by simp), if_neg hl]
      replace hf := Lib.hid hf
      clear hl
      go_wp2_with fail
      go_ret2
      rw [hfin.out, hf.out]
      exact ⟨_, rfl, BytesAt.of_own hO.out, Bf.out⟩
  · have hE' : (E != 0) = true := by simpa using hE
    have hf : fin (l, E) = ([], E) := by unfold fin; rw [if_pos hE]
    replace hf := Lib.hid hf
    replace hE := Lib.hid hE
    go_wp2_with fail
    go_quiet (fail)
    go_wp2_with fail
    go_ret2
    rw [hfin.out, hf.out]
    exact ⟨_, rfl, nil_bytes _, below_drewN Bf.out _⟩
set_option maxHeartbeats 4000000 in
set_option maxRecDepth 100000 in
theorem cput_ttf (cl : Bool) (n : Nat) (id : ByteArray) (wt : ByteArray) (wx : ByteArray) (q : Nat) (rb : Bool) (u : ByteArray) (w : World) (hn : n ≤ 65535) (hq : q < 3) (h0 : conE 4 (n : Nat) true wt wx (q : Nat) rb true u false ⟨#[]⟩ = 0) :
    Calls Tryd.prog 75 #[con 4 cl (n : Nat) id true wt wx (q : Nat) rb true u false ⟨#[]⟩] w (Numb (fin (gat [([0, 4, 77, 81, 84, 84], 0), ([4, fl q cl true rb false true 5], 0), ([n / 256, n % 256], 0), (uL id, textE id), (uL wt, textE wt), (rL wx, laidE wx), (uL u, textE u)])).1 (fin (gat [([0, 4, 77, 81, 84, 84], 0), ([4, fl q cl true rb false true 5], 0), ([n / 256, n % 256], 0), (uL id, textE id), (uL wt, textE wt), (rL wx, laidE wx), (uL u, textE u)])).2 w) := by
  have R := fun W => wrongs55 4 cl (n : Nat) id true wt wx q rb true u false ⟨#[]⟩ W
  rw [h0] at R
  replace R := Lib.hid R
  clear h0
  have F := fun W => flags_any 4 cl (n : Nat) id true wt wx q rb true u false ⟨#[]⟩ W (by omega)
  replace F := Lib.hid F
  have hn' : (n : Int) ≤ 65535 := by omega
  unfold con at R F ⊢
  obtain ⟨CS, hCS⟩ : ∃ CS : Array Value, CS = #[.int .i64 4, .bool cl, .int .i64 (n : Nat), .string id, .bool true, .string wt, .string wx, .int .i64 (q : Nat), .bool rb, .bool true, .string u, .bool false, .string ⟨#[]⟩] := ⟨_, rfl⟩
  have k0 : Blk (w.alloc (.cells CS 29)) w.heap.size 29 CS := Blk.new w 29 CS
  have b0 := ext_alloc w (.cells CS 29)
  rw [hCS] at k0 b0
  clear hCS CS
  replace b0 := Lib.hid b0
  replace k0 := Lib.hid k0
  go_enter Tryd.func75, Tryd.ntmps75
  go_wp2_with fail
  refine (R.out _).mono ?_
  rintro e w1 ⟨rfl, b1⟩
  have k1 := k0.out.ext b1
  have B1 : Below w.heap.size w w1 := ext_trans b0.out b1
  have z1 : w.heap.size < w1.heap.size := by have := b1.size; simp at this; omega
  have r1 := wr_new w1
  have g1 : w1.heap.size < (w1.alloc (.cells #[.slice none 0 0, .int .i64 0] 139)).heap.size := by simp
  have y1 : Below w1.heap.size w1 (w1.alloc (.cells #[.slice none 0 0, .int .i64 0] 139)) := ext_alloc _ _
  have k1a := k1.ext y1
  clear b1
  replace k1 := Lib.hid k1
  replace k1a := Lib.hid k1a
  replace r1 := Lib.hid r1
  replace y1 := Lib.hid y1
  replace B1 := Lib.hid B1
  go_wp2_with fail
  refine (u_put ⟨#[77, 81, 84, 84]⟩ _).mono ?_
  rintro e w2 ⟨v2, rfl, a2, b2⟩
  have mq : uL ⟨#[77, 81, 84, 84]⟩ = [0, 4, 77, 81, 84, 84] := by decide +kernel
  rw [mq] at a2
  clear mq
  have me : textE ⟨#[77, 81, 84, 84]⟩ = 0 := by decide +kernel
  have k2 := k1a.out.ext b2
  have r2 := Wr.ext r1.out b2
  have y2 := ext_trans y1.out b2
  replace r2 := Lib.hid r2
  replace y2 := Lib.hid y2
  replace k2 := Lib.hid k2
  replace b2 := Lib.hid b2
  replace a2 := Lib.hid a2
  go_wp2_with fail
  refine (add_st w1.heap.size ([], 0) ([0, 4, 77, 81, 84, 84], 0) v2 _ r2.out a2.out (by decide)).mono ?_
  rintro e w3 ⟨S0, q0, rfl, r3, b3⟩
  have t0 : S0.1.length ≤ 6 := by rw [q0]; refine Nat.le_trans (st_len _ _) ?_; simp only [List.length_cons, List.length_nil]; omega
  have k3 := k2.out.below b3 z1
  have y3 := y2.out.trans b3
  clear b3 a2 r2 y2 k2
  have c3_0 : w3.cell? ⟨w.heap.size, 0, none⟩ = some (.int .i64 4) := (k3.cell 0).trans rfl
  have c3_1 : w3.cell? ⟨w.heap.size, 1, none⟩ = some (.bool cl) := (k3.cell 1).trans rfl
  have c3_2 : w3.cell? ⟨w.heap.size, 2, none⟩ = some (.int .i64 (n : Nat)) := (k3.cell 2).trans rfl
  have c3_3 : w3.cell? ⟨w.heap.size, 3, none⟩ = some (.string id) := (k3.cell 3).trans rfl
  have c3_4 : w3.cell? ⟨w.heap.size, 4, none⟩ = some (.bool true) := (k3.cell 4).trans rfl
  have c3_5 : w3.cell? ⟨w.heap.size, 5, none⟩ = some (.string wt) := (k3.cell 5).trans rfl
  have c3_6 : w3.cell? ⟨w.heap.size, 6, none⟩ = some (.string wx) := (k3.cell 6).trans rfl
  have c3_7 : w3.cell? ⟨w.heap.size, 7, none⟩ = some (.int .i64 (q : Nat)) := (k3.cell 7).trans rfl
  have c3_8 : w3.cell? ⟨w.heap.size, 8, none⟩ = some (.bool rb) := (k3.cell 8).trans rfl
  have c3_9 : w3.cell? ⟨w.heap.size, 9, none⟩ = some (.bool true) := (k3.cell 9).trans rfl
  have c3_10 : w3.cell? ⟨w.heap.size, 10, none⟩ = some (.string u) := (k3.cell 10).trans rfl
  have c3_11 : w3.cell? ⟨w.heap.size, 11, none⟩ = some (.bool false) := (k3.cell 11).trans rfl
  have c3_12 : w3.cell? ⟨w.heap.size, 12, none⟩ = some (.string ⟨#[]⟩) := (k3.cell 12).trans rfl
  replace k3 := Lib.hid k3
  replace r3 := Lib.hid r3
  replace y3 := Lib.hid y3
  replace q0 := Lib.hid q0
  go_wp2_with fail
  refine (F.out _).mono ?_
  rintro e w4 ⟨rfl, b4⟩
  have a4 := lit_two w4 4 (fl q cl true rb false true 5)
  have x4 := ext_alloc w4 (.cells #[.int .u8 ((4 : Nat) : Int), .int .u8 ((fl q cl true rb false true 5 : Nat) : Int)] 5)
  have b4 := ext_trans b4 x4
  clear x4
  have k4 := k3.out.ext b4
  have r4 := Wr.ext r3.out b4
  have y4 := ext_trans y3.out b4
  replace r4 := Lib.hid r4
  replace y4 := Lib.hid y4
  replace k4 := Lib.hid k4
  replace b4 := Lib.hid b4
  replace a4 := Lib.hid a4
  go_wp2_with fail
  refine (add_st w1.heap.size S0 ([4, fl q cl true rb false true 5], 0) _ _ r4.out a4.out (by simp only [List.length_cons, List.length_nil]; omega)).mono ?_
  rintro e w5 ⟨S1, q1, rfl, r5, b5⟩
  have t1 : S1.1.length ≤ 8 := by rw [q1]; refine Nat.le_trans (st_len _ _) ?_; simp only [List.length_cons, List.length_nil]; omega
  have k5 := k4.out.below b5 z1
  have y5 := y4.out.trans b5
  clear b5 a4 r4 y4 k4
  clear c3_0
  clear c3_1
  clear c3_2
  clear c3_3
  clear c3_4
  clear c3_5
  clear c3_6
  clear c3_7
  clear c3_8
  clear c3_9
  clear c3_10
  clear c3_11
  clear c3_12
  have c5_2 : w5.cell? ⟨w.heap.size, 2, none⟩ = some (.int .i64 (n : Nat)) := (k5.cell 2).trans rfl
  replace k5 := Lib.hid k5
  replace r5 := Lib.hid r5
  replace y5 := Lib.hid y5
  replace q1 := Lib.hid q1
  go_wp2_with fail
  refine (u_two n _ hn).mono ?_
  rintro e w6 ⟨v6, rfl, a6, b6⟩
  have k6 := k5.out.ext b6
  have r6 := Wr.ext r5.out b6
  have y6 := ext_trans y5.out b6
  replace r6 := Lib.hid r6
  replace y6 := Lib.hid y6
  replace k6 := Lib.hid k6
  replace b6 := Lib.hid b6
  replace a6 := Lib.hid a6
  go_wp2_with fail
  refine (add_st w1.heap.size S1 ([n / 256, n % 256], 0) v6 _ r6.out a6.out (by simp only [List.length_cons, List.length_nil]; omega)).mono ?_
  rintro e w7 ⟨S2, q2, rfl, r7, b7⟩
  have t2 : S2.1.length ≤ 10 := by rw [q2]; refine Nat.le_trans (st_len _ _) ?_; simp only [List.length_cons, List.length_nil]; omega
  have k7 := k6.out.below b7 z1
  have y7 := y6.out.trans b7
  clear b7 a6 r6 y6 k6
  clear c5_2
  have c7_3 : w7.cell? ⟨w.heap.size, 3, none⟩ = some (.string id) := (k7.cell 3).trans rfl
  replace k7 := Lib.hid k7
  replace r7 := Lib.hid r7
  replace y7 := Lib.hid y7
  replace q2 := Lib.hid q2
  go_wp2_with fail
  refine (u_put id _).mono ?_
  rintro e w8 ⟨v8, rfl, a8, b8⟩
  have k8 := k7.out.ext b8
  have r8 := Wr.ext r7.out b8
  have y8 := ext_trans y7.out b8
  replace r8 := Lib.hid r8
  replace y8 := Lib.hid y8
  replace k8 := Lib.hid k8
  replace b8 := Lib.hid b8
  replace a8 := Lib.hid a8
  have l8 := uL_len id
  go_wp2_with fail
  refine (add_st w1.heap.size S2 (uL id, textE id) v8 _ r8.out a8.out (by simp only [List.length_nil]; omega)).mono ?_
  rintro e w9 ⟨S3, q3, rfl, r9, b9⟩
  have t3 : S3.1.length ≤ 65547 := by rw [q3]; refine Nat.le_trans (st_len _ _) ?_; simp only [List.length_cons, List.length_nil]; omega
  have k9 := k8.out.below b9 z1
  have y9 := y8.out.trans b9
  clear b9 a8 r8 y8 k8
  clear c7_3
  have c9_4 : w9.cell? ⟨w.heap.size, 4, none⟩ = some (.bool true) := (k9.cell 4).trans rfl
  have c9_5 : w9.cell? ⟨w.heap.size, 5, none⟩ = some (.string wt) := (k9.cell 5).trans rfl
  replace k9 := Lib.hid k9
  replace r9 := Lib.hid r9
  replace y9 := Lib.hid y9
  replace q3 := Lib.hid q3
  go_wp2_with fail
  refine (u_put wt _).mono ?_
  rintro e w10 ⟨v10, rfl, a10, b10⟩
  have k10 := k9.out.ext b10
  have r10 := Wr.ext r9.out b10
  have y10 := ext_trans y9.out b10
  replace r10 := Lib.hid r10
  replace y10 := Lib.hid y10
  replace k10 := Lib.hid k10
  replace b10 := Lib.hid b10
  replace a10 := Lib.hid a10
  have l10 := uL_len wt
  go_wp2_with fail
  refine (add_st w1.heap.size S3 (uL wt, textE wt) v10 _ r10.out a10.out (by simp only [List.length_nil]; omega)).mono ?_
  rintro e w11 ⟨S4, q4, rfl, r11, b11⟩
  have t4 : S4.1.length ≤ 131084 := by rw [q4]; refine Nat.le_trans (st_len _ _) ?_; simp only [List.length_cons, List.length_nil]; omega
  have k11 := k10.out.below b11 z1
  have y11 := y10.out.trans b11
  clear b11 a10 r10 y10 k10
  clear c9_4
  clear c9_5
  have c11_6 : w11.cell? ⟨w.heap.size, 6, none⟩ = some (.string wx) := (k11.cell 6).trans rfl
  replace k11 := Lib.hid k11
  replace r11 := Lib.hid r11
  replace y11 := Lib.hid y11
  replace q4 := Lib.hid q4
  go_wp2_with fail
  refine (u_raw wx _).mono ?_
  rintro e w12 ⟨v12, rfl, a12, b12⟩
  have k12 := k11.out.ext b12
  have r12 := Wr.ext r11.out b12
  have y12 := ext_trans y11.out b12
  replace r12 := Lib.hid r12
  replace y12 := Lib.hid y12
  replace k12 := Lib.hid k12
  replace b12 := Lib.hid b12
  replace a12 := Lib.hid a12
  have l12 := rL_len wx
  go_wp2_with fail
  refine (add_st w1.heap.size S4 (rL wx, laidE wx) v12 _ r12.out a12.out (by simp only [List.length_nil]; omega)).mono ?_
  rintro e w13 ⟨S5, q5, rfl, r13, b13⟩
  have t5 : S5.1.length ≤ 196621 := by rw [q5]; refine Nat.le_trans (st_len _ _) ?_; simp only [List.length_cons, List.length_nil]; omega
  have k13 := k12.out.below b13 z1
  have y13 := y12.out.trans b13
  clear b13 a12 r12 y12 k12
  clear c11_6
  have c13_9 : w13.cell? ⟨w.heap.size, 9, none⟩ = some (.bool true) := (k13.cell 9).trans rfl
  have c13_10 : w13.cell? ⟨w.heap.size, 10, none⟩ = some (.string u) := (k13.cell 10).trans rfl
  replace k13 := Lib.hid k13
  replace r13 := Lib.hid r13
  replace y13 := Lib.hid y13
  replace q5 := Lib.hid q5
  go_wp2_with fail
  refine (u_put u _).mono ?_
  rintro e w14 ⟨v14, rfl, a14, b14⟩
  have k14 := k13.out.ext b14
  have r14 := Wr.ext r13.out b14
  have y14 := ext_trans y13.out b14
  replace r14 := Lib.hid r14
  replace y14 := Lib.hid y14
  replace k14 := Lib.hid k14
  replace b14 := Lib.hid b14
  replace a14 := Lib.hid a14
  have l14 := uL_len u
  go_wp2_with fail
  refine (add_st w1.heap.size S5 (uL u, textE u) v14 _ r14.out a14.out (by simp only [List.length_nil]; omega)).mono ?_
  rintro e w15 ⟨S6, q6, rfl, r15, b15⟩
  have t6 : S6.1.length ≤ 262158 := by rw [q6]; refine Nat.le_trans (st_len _ _) ?_; simp only [List.length_cons, List.length_nil]; omega
  have k15 := k14.out.below b15 z1
  have y15 := y14.out.trans b15
  clear b15 a14 r14 y14 k14
  clear c13_9
  clear c13_10
  have c15_11 : w15.cell? ⟨w.heap.size, 11, none⟩ = some (.bool false) := (k15.cell 11).trans rfl
  replace k15 := Lib.hid k15
  replace r15 := Lib.hid r15
  replace y15 := Lib.hid y15
  replace q6 := Lib.hid q6
  have hfin : gat [([0, 4, 77, 81, 84, 84], 0), ([4, fl q cl true rb false true 5], 0), ([n / 256, n % 256], 0), (uL id, textE id), (uL wt, textE wt), (rL wx, laidE wx), (uL u, textE u)] = S6 := by
    unfold gat
    simp only [List.foldl]
    rw [q6.out, q5.out, q4.out, q3.out, q2.out, q1.out, q0.out]
  obtain ⟨l, E⟩ := S6
  replace hfin := Lib.hid hfin
  simp only at t6
  obtain ⟨vf, hB, hO⟩ := r15.out
  have d0 := hB.cell 0
  have d1 := hB.cell 1
  simp only [List.getElem?_toArray, List.getElem?_cons_zero, List.getElem?_cons_succ] at d0 d1
  have Bf : Below w.heap.size w w15 := B1.out.trans ((y15.out).mono (by omega))
  replace hO := Lib.hid hO
  replace hB := Lib.hid hB
  replace Bf := Lib.hid Bf
  by_cases hE : E = 0
  · subst hE
    obtain ⟨af, cf, rfl⟩ := own_slice hO.out
    by_cases hl : 4096 < l.length
    · have hl' : (4096 : Int) < l.length := by omega
      have hf : fin (l, 0) = ([], 3) := by unfold fin; rw [if_neg (by simp), if_pos hl]
      replace hf := Lib.hid hf
      go_wp2_with fail
      go_ret2
      rw [hfin.out, hf.out]
      exact ⟨_, rfl, nil_bytes _, Bf.out⟩
    · have hl' : (l.length : Int) ≤ 4096 := by omega
      have hf : fin (l, 0) = (l, 0) := by unfold fin; rw [if_neg (by simp), if_neg hl]
      replace hf := Lib.hid hf
      clear hl
      go_wp2_with fail
      go_ret2
      rw [hfin.out, hf.out]
      exact ⟨_, rfl, BytesAt.of_own hO.out, Bf.out⟩
  · have hE' : (E != 0) = true := by simpa using hE
    have hf : fin (l, E) = ([], E) := by unfold fin; rw [if_pos hE]
    replace hf := Lib.hid hf
    replace hE := Lib.hid hE
    go_wp2_with fail
    go_quiet (fail)
    go_wp2_with fail
    go_ret2
    rw [hfin.out, hf.out]
    exact ⟨_, rfl, nil_bytes _, below_drewN Bf.out _⟩
set_option maxHeartbeats 4000000 in
set_option maxRecDepth 100000 in
theorem cput_tff (cl : Bool) (n : Nat) (id : ByteArray) (wt : ByteArray) (wx : ByteArray) (q : Nat) (rb : Bool) (w : World) (hn : n ≤ 65535) (hq : q < 3) (h0 : conE 4 (n : Nat) true wt wx (q : Nat) rb false ⟨#[]⟩ false ⟨#[]⟩ = 0) :
    Calls Tryd.prog 75 #[con 4 cl (n : Nat) id true wt wx (q : Nat) rb false ⟨#[]⟩ false ⟨#[]⟩] w (Numb (fin (gat [([0, 4, 77, 81, 84, 84], 0), ([4, fl q cl true rb false false 5], 0), ([n / 256, n % 256], 0), (uL id, textE id), (uL wt, textE wt), (rL wx, laidE wx)])).1 (fin (gat [([0, 4, 77, 81, 84, 84], 0), ([4, fl q cl true rb false false 5], 0), ([n / 256, n % 256], 0), (uL id, textE id), (uL wt, textE wt), (rL wx, laidE wx)])).2 w) := by
  have R := fun W => wrongs55 4 cl (n : Nat) id true wt wx q rb false ⟨#[]⟩ false ⟨#[]⟩ W
  rw [h0] at R
  replace R := Lib.hid R
  clear h0
  have F := fun W => flags_any 4 cl (n : Nat) id true wt wx q rb false ⟨#[]⟩ false ⟨#[]⟩ W (by omega)
  replace F := Lib.hid F
  have hn' : (n : Int) ≤ 65535 := by omega
  unfold con at R F ⊢
  obtain ⟨CS, hCS⟩ : ∃ CS : Array Value, CS = #[.int .i64 4, .bool cl, .int .i64 (n : Nat), .string id, .bool true, .string wt, .string wx, .int .i64 (q : Nat), .bool rb, .bool false, .string ⟨#[]⟩, .bool false, .string ⟨#[]⟩] := ⟨_, rfl⟩
  have k0 : Blk (w.alloc (.cells CS 29)) w.heap.size 29 CS := Blk.new w 29 CS
  have b0 := ext_alloc w (.cells CS 29)
  rw [hCS] at k0 b0
  clear hCS CS
  replace b0 := Lib.hid b0
  replace k0 := Lib.hid k0
  go_enter Tryd.func75, Tryd.ntmps75
  go_wp2_with fail
  refine (R.out _).mono ?_
  rintro e w1 ⟨rfl, b1⟩
  have k1 := k0.out.ext b1
  have B1 : Below w.heap.size w w1 := ext_trans b0.out b1
  have z1 : w.heap.size < w1.heap.size := by have := b1.size; simp at this; omega
  have r1 := wr_new w1
  have g1 : w1.heap.size < (w1.alloc (.cells #[.slice none 0 0, .int .i64 0] 139)).heap.size := by simp
  have y1 : Below w1.heap.size w1 (w1.alloc (.cells #[.slice none 0 0, .int .i64 0] 139)) := ext_alloc _ _
  have k1a := k1.ext y1
  clear b1
  replace k1 := Lib.hid k1
  replace k1a := Lib.hid k1a
  replace r1 := Lib.hid r1
  replace y1 := Lib.hid y1
  replace B1 := Lib.hid B1
  go_wp2_with fail
  refine (u_put ⟨#[77, 81, 84, 84]⟩ _).mono ?_
  rintro e w2 ⟨v2, rfl, a2, b2⟩
  have mq : uL ⟨#[77, 81, 84, 84]⟩ = [0, 4, 77, 81, 84, 84] := by decide +kernel
  rw [mq] at a2
  clear mq
  have me : textE ⟨#[77, 81, 84, 84]⟩ = 0 := by decide +kernel
  have k2 := k1a.out.ext b2
  have r2 := Wr.ext r1.out b2
  have y2 := ext_trans y1.out b2
  replace r2 := Lib.hid r2
  replace y2 := Lib.hid y2
  replace k2 := Lib.hid k2
  replace b2 := Lib.hid b2
  replace a2 := Lib.hid a2
  go_wp2_with fail
  refine (add_st w1.heap.size ([], 0) ([0, 4, 77, 81, 84, 84], 0) v2 _ r2.out a2.out (by decide)).mono ?_
  rintro e w3 ⟨S0, q0, rfl, r3, b3⟩
  have t0 : S0.1.length ≤ 6 := by rw [q0]; refine Nat.le_trans (st_len _ _) ?_; simp only [List.length_cons, List.length_nil]; omega
  have k3 := k2.out.below b3 z1
  have y3 := y2.out.trans b3
  clear b3 a2 r2 y2 k2
  have c3_0 : w3.cell? ⟨w.heap.size, 0, none⟩ = some (.int .i64 4) := (k3.cell 0).trans rfl
  have c3_1 : w3.cell? ⟨w.heap.size, 1, none⟩ = some (.bool cl) := (k3.cell 1).trans rfl
  have c3_2 : w3.cell? ⟨w.heap.size, 2, none⟩ = some (.int .i64 (n : Nat)) := (k3.cell 2).trans rfl
  have c3_3 : w3.cell? ⟨w.heap.size, 3, none⟩ = some (.string id) := (k3.cell 3).trans rfl
  have c3_4 : w3.cell? ⟨w.heap.size, 4, none⟩ = some (.bool true) := (k3.cell 4).trans rfl
  have c3_5 : w3.cell? ⟨w.heap.size, 5, none⟩ = some (.string wt) := (k3.cell 5).trans rfl
  have c3_6 : w3.cell? ⟨w.heap.size, 6, none⟩ = some (.string wx) := (k3.cell 6).trans rfl
  have c3_7 : w3.cell? ⟨w.heap.size, 7, none⟩ = some (.int .i64 (q : Nat)) := (k3.cell 7).trans rfl
  have c3_8 : w3.cell? ⟨w.heap.size, 8, none⟩ = some (.bool rb) := (k3.cell 8).trans rfl
  have c3_9 : w3.cell? ⟨w.heap.size, 9, none⟩ = some (.bool false) := (k3.cell 9).trans rfl
  have c3_10 : w3.cell? ⟨w.heap.size, 10, none⟩ = some (.string ⟨#[]⟩) := (k3.cell 10).trans rfl
  have c3_11 : w3.cell? ⟨w.heap.size, 11, none⟩ = some (.bool false) := (k3.cell 11).trans rfl
  have c3_12 : w3.cell? ⟨w.heap.size, 12, none⟩ = some (.string ⟨#[]⟩) := (k3.cell 12).trans rfl
  replace k3 := Lib.hid k3
  replace r3 := Lib.hid r3
  replace y3 := Lib.hid y3
  replace q0 := Lib.hid q0
  go_wp2_with fail
  refine (F.out _).mono ?_
  rintro e w4 ⟨rfl, b4⟩
  have a4 := lit_two w4 4 (fl q cl true rb false false 5)
  have x4 := ext_alloc w4 (.cells #[.int .u8 ((4 : Nat) : Int), .int .u8 ((fl q cl true rb false false 5 : Nat) : Int)] 5)
  have b4 := ext_trans b4 x4
  clear x4
  have k4 := k3.out.ext b4
  have r4 := Wr.ext r3.out b4
  have y4 := ext_trans y3.out b4
  replace r4 := Lib.hid r4
  replace y4 := Lib.hid y4
  replace k4 := Lib.hid k4
  replace b4 := Lib.hid b4
  replace a4 := Lib.hid a4
  go_wp2_with fail
  refine (add_st w1.heap.size S0 ([4, fl q cl true rb false false 5], 0) _ _ r4.out a4.out (by simp only [List.length_cons, List.length_nil]; omega)).mono ?_
  rintro e w5 ⟨S1, q1, rfl, r5, b5⟩
  have t1 : S1.1.length ≤ 8 := by rw [q1]; refine Nat.le_trans (st_len _ _) ?_; simp only [List.length_cons, List.length_nil]; omega
  have k5 := k4.out.below b5 z1
  have y5 := y4.out.trans b5
  clear b5 a4 r4 y4 k4
  clear c3_0
  clear c3_1
  clear c3_2
  clear c3_3
  clear c3_4
  clear c3_5
  clear c3_6
  clear c3_7
  clear c3_8
  clear c3_9
  clear c3_10
  clear c3_11
  clear c3_12
  have c5_2 : w5.cell? ⟨w.heap.size, 2, none⟩ = some (.int .i64 (n : Nat)) := (k5.cell 2).trans rfl
  replace k5 := Lib.hid k5
  replace r5 := Lib.hid r5
  replace y5 := Lib.hid y5
  replace q1 := Lib.hid q1
  go_wp2_with fail
  refine (u_two n _ hn).mono ?_
  rintro e w6 ⟨v6, rfl, a6, b6⟩
  have k6 := k5.out.ext b6
  have r6 := Wr.ext r5.out b6
  have y6 := ext_trans y5.out b6
  replace r6 := Lib.hid r6
  replace y6 := Lib.hid y6
  replace k6 := Lib.hid k6
  replace b6 := Lib.hid b6
  replace a6 := Lib.hid a6
  go_wp2_with fail
  refine (add_st w1.heap.size S1 ([n / 256, n % 256], 0) v6 _ r6.out a6.out (by simp only [List.length_cons, List.length_nil]; omega)).mono ?_
  rintro e w7 ⟨S2, q2, rfl, r7, b7⟩
  have t2 : S2.1.length ≤ 10 := by rw [q2]; refine Nat.le_trans (st_len _ _) ?_; simp only [List.length_cons, List.length_nil]; omega
  have k7 := k6.out.below b7 z1
  have y7 := y6.out.trans b7
  clear b7 a6 r6 y6 k6
  clear c5_2
  have c7_3 : w7.cell? ⟨w.heap.size, 3, none⟩ = some (.string id) := (k7.cell 3).trans rfl
  replace k7 := Lib.hid k7
  replace r7 := Lib.hid r7
  replace y7 := Lib.hid y7
  replace q2 := Lib.hid q2
  go_wp2_with fail
  refine (u_put id _).mono ?_
  rintro e w8 ⟨v8, rfl, a8, b8⟩
  have k8 := k7.out.ext b8
  have r8 := Wr.ext r7.out b8
  have y8 := ext_trans y7.out b8
  replace r8 := Lib.hid r8
  replace y8 := Lib.hid y8
  replace k8 := Lib.hid k8
  replace b8 := Lib.hid b8
  replace a8 := Lib.hid a8
  have l8 := uL_len id
  go_wp2_with fail
  refine (add_st w1.heap.size S2 (uL id, textE id) v8 _ r8.out a8.out (by simp only [List.length_nil]; omega)).mono ?_
  rintro e w9 ⟨S3, q3, rfl, r9, b9⟩
  have t3 : S3.1.length ≤ 65547 := by rw [q3]; refine Nat.le_trans (st_len _ _) ?_; simp only [List.length_cons, List.length_nil]; omega
  have k9 := k8.out.below b9 z1
  have y9 := y8.out.trans b9
  clear b9 a8 r8 y8 k8
  clear c7_3
  have c9_4 : w9.cell? ⟨w.heap.size, 4, none⟩ = some (.bool true) := (k9.cell 4).trans rfl
  have c9_5 : w9.cell? ⟨w.heap.size, 5, none⟩ = some (.string wt) := (k9.cell 5).trans rfl
  replace k9 := Lib.hid k9
  replace r9 := Lib.hid r9
  replace y9 := Lib.hid y9
  replace q3 := Lib.hid q3
  go_wp2_with fail
  refine (u_put wt _).mono ?_
  rintro e w10 ⟨v10, rfl, a10, b10⟩
  have k10 := k9.out.ext b10
  have r10 := Wr.ext r9.out b10
  have y10 := ext_trans y9.out b10
  replace r10 := Lib.hid r10
  replace y10 := Lib.hid y10
  replace k10 := Lib.hid k10
  replace b10 := Lib.hid b10
  replace a10 := Lib.hid a10
  have l10 := uL_len wt
  go_wp2_with fail
  refine (add_st w1.heap.size S3 (uL wt, textE wt) v10 _ r10.out a10.out (by simp only [List.length_nil]; omega)).mono ?_
  rintro e w11 ⟨S4, q4, rfl, r11, b11⟩
  have t4 : S4.1.length ≤ 131084 := by rw [q4]; refine Nat.le_trans (st_len _ _) ?_; simp only [List.length_cons, List.length_nil]; omega
  have k11 := k10.out.below b11 z1
  have y11 := y10.out.trans b11
  clear b11 a10 r10 y10 k10
  clear c9_4
  clear c9_5
  have c11_6 : w11.cell? ⟨w.heap.size, 6, none⟩ = some (.string wx) := (k11.cell 6).trans rfl
  replace k11 := Lib.hid k11
  replace r11 := Lib.hid r11
  replace y11 := Lib.hid y11
  replace q4 := Lib.hid q4
  go_wp2_with fail
  refine (u_raw wx _).mono ?_
  rintro e w12 ⟨v12, rfl, a12, b12⟩
  have k12 := k11.out.ext b12
  have r12 := Wr.ext r11.out b12
  have y12 := ext_trans y11.out b12
  replace r12 := Lib.hid r12
  replace y12 := Lib.hid y12
  replace k12 := Lib.hid k12
  replace b12 := Lib.hid b12
  replace a12 := Lib.hid a12
  have l12 := rL_len wx
  go_wp2_with fail
  refine (add_st w1.heap.size S4 (rL wx, laidE wx) v12 _ r12.out a12.out (by simp only [List.length_nil]; omega)).mono ?_
  rintro e w13 ⟨S5, q5, rfl, r13, b13⟩
  have t5 : S5.1.length ≤ 196621 := by rw [q5]; refine Nat.le_trans (st_len _ _) ?_; simp only [List.length_cons, List.length_nil]; omega
  have k13 := k12.out.below b13 z1
  have y13 := y12.out.trans b13
  clear b13 a12 r12 y12 k12
  clear c11_6
  have c13_9 : w13.cell? ⟨w.heap.size, 9, none⟩ = some (.bool false) := (k13.cell 9).trans rfl
  have c13_11 : w13.cell? ⟨w.heap.size, 11, none⟩ = some (.bool false) := (k13.cell 11).trans rfl
  replace k13 := Lib.hid k13
  replace r13 := Lib.hid r13
  replace y13 := Lib.hid y13
  replace q5 := Lib.hid q5
  have hfin : gat [([0, 4, 77, 81, 84, 84], 0), ([4, fl q cl true rb false false 5], 0), ([n / 256, n % 256], 0), (uL id, textE id), (uL wt, textE wt), (rL wx, laidE wx)] = S5 := by
    unfold gat
    simp only [List.foldl]
    rw [q5.out, q4.out, q3.out, q2.out, q1.out, q0.out]
  obtain ⟨l, E⟩ := S5
  replace hfin := Lib.hid hfin
  simp only at t5
  obtain ⟨vf, hB, hO⟩ := r13.out
  have d0 := hB.cell 0
  have d1 := hB.cell 1
  simp only [List.getElem?_toArray, List.getElem?_cons_zero, List.getElem?_cons_succ] at d0 d1
  have Bf : Below w.heap.size w w13 := B1.out.trans ((y13.out).mono (by omega))
  replace hO := Lib.hid hO
  replace hB := Lib.hid hB
  replace Bf := Lib.hid Bf
  by_cases hE : E = 0
  · subst hE
    obtain ⟨af, cf, rfl⟩ := own_slice hO.out
    by_cases hl : 4096 < l.length
    · have hl' : (4096 : Int) < l.length := by omega
      have hf : fin (l, 0) = ([], 3) := by unfold fin; rw [if_neg (by simp), if_pos hl]
      replace hf := Lib.hid hf
      go_wp2_with fail
      go_ret2
      rw [hfin.out, hf.out]
      exact ⟨_, rfl, nil_bytes _, Bf.out⟩
    · have hl' : (l.length : Int) ≤ 4096 := by omega
      have hf : fin (l, 0) = (l, 0) := by unfold fin; rw [if_neg (by simp), if_neg hl]
      replace hf := Lib.hid hf
      clear hl
      go_wp2_with fail
      go_ret2
      rw [hfin.out, hf.out]
      exact ⟨_, rfl, BytesAt.of_own hO.out, Bf.out⟩
  · have hE' : (E != 0) = true := by simpa using hE
    have hf : fin (l, E) = ([], E) := by unfold fin; rw [if_pos hE]
    replace hf := Lib.hid hf
    replace hE := Lib.hid hE
    go_wp2_with fail
    go_quiet (fail)
    go_wp2_with fail
    go_ret2
    rw [hfin.out, hf.out]
    exact ⟨_, rfl, nil_bytes _, below_drewN Bf.out _⟩
set_option maxHeartbeats 4000000 in
set_option maxRecDepth 100000 in
theorem cput_ftt (cl : Bool) (n : Nat) (id : ByteArray) (u : ByteArray) (p : ByteArray) (w : World) (hn : n ≤ 65535) (h0 : conE 4 (n : Nat) false ⟨#[]⟩ ⟨#[]⟩ 0 false true u true p = 0) :
    Calls Tryd.prog 75 #[con 4 cl (n : Nat) id false ⟨#[]⟩ ⟨#[]⟩ 0 false true u true p] w (Numb (fin (gat [([0, 4, 77, 81, 84, 84], 0), ([4, fl 0 cl false false true true 5], 0), ([n / 256, n % 256], 0), (uL id, textE id), (uL u, textE u), (rL p, laidE p)])).1 (fin (gat [([0, 4, 77, 81, 84, 84], 0), ([4, fl 0 cl false false true true 5], 0), ([n / 256, n % 256], 0), (uL id, textE id), (uL u, textE u), (rL p, laidE p)])).2 w) := by
  have R := fun W => wrongs55 4 cl (n : Nat) id false ⟨#[]⟩ ⟨#[]⟩ 0 false true u true p W
  rw [h0] at R
  replace R := Lib.hid R
  clear h0
  have F := fun W => flags_any 4 cl (n : Nat) id false ⟨#[]⟩ ⟨#[]⟩ (0 : Nat) false true u true p W (by decide)
  replace F := Lib.hid F
  have hn' : (n : Int) ≤ 65535 := by omega
  unfold con at R F ⊢
  obtain ⟨CS, hCS⟩ : ∃ CS : Array Value, CS = #[.int .i64 4, .bool cl, .int .i64 (n : Nat), .string id, .bool false, .string ⟨#[]⟩, .string ⟨#[]⟩, .int .i64 0, .bool false, .bool true, .string u, .bool true, .string p] := ⟨_, rfl⟩
  have k0 : Blk (w.alloc (.cells CS 29)) w.heap.size 29 CS := Blk.new w 29 CS
  have b0 := ext_alloc w (.cells CS 29)
  rw [hCS] at k0 b0
  clear hCS CS
  replace b0 := Lib.hid b0
  replace k0 := Lib.hid k0
  go_enter Tryd.func75, Tryd.ntmps75
  go_wp2_with fail
  refine (R.out _).mono ?_
  rintro e w1 ⟨rfl, b1⟩
  have k1 := k0.out.ext b1
  have B1 : Below w.heap.size w w1 := ext_trans b0.out b1
  have z1 : w.heap.size < w1.heap.size := by have := b1.size; simp at this; omega
  have r1 := wr_new w1
  have g1 : w1.heap.size < (w1.alloc (.cells #[.slice none 0 0, .int .i64 0] 139)).heap.size := by simp
  have y1 : Below w1.heap.size w1 (w1.alloc (.cells #[.slice none 0 0, .int .i64 0] 139)) := ext_alloc _ _
  have k1a := k1.ext y1
  clear b1
  replace k1 := Lib.hid k1
  replace k1a := Lib.hid k1a
  replace r1 := Lib.hid r1
  replace y1 := Lib.hid y1
  replace B1 := Lib.hid B1
  go_wp2_with fail
  refine (u_put ⟨#[77, 81, 84, 84]⟩ _).mono ?_
  rintro e w2 ⟨v2, rfl, a2, b2⟩
  have mq : uL ⟨#[77, 81, 84, 84]⟩ = [0, 4, 77, 81, 84, 84] := by decide +kernel
  rw [mq] at a2
  clear mq
  have me : textE ⟨#[77, 81, 84, 84]⟩ = 0 := by decide +kernel
  have k2 := k1a.out.ext b2
  have r2 := Wr.ext r1.out b2
  have y2 := ext_trans y1.out b2
  replace r2 := Lib.hid r2
  replace y2 := Lib.hid y2
  replace k2 := Lib.hid k2
  replace b2 := Lib.hid b2
  replace a2 := Lib.hid a2
  go_wp2_with fail
  refine (add_st w1.heap.size ([], 0) ([0, 4, 77, 81, 84, 84], 0) v2 _ r2.out a2.out (by decide)).mono ?_
  rintro e w3 ⟨S0, q0, rfl, r3, b3⟩
  have t0 : S0.1.length ≤ 6 := by rw [q0]; refine Nat.le_trans (st_len _ _) ?_; simp only [List.length_cons, List.length_nil]; omega
  have k3 := k2.out.below b3 z1
  have y3 := y2.out.trans b3
  clear b3 a2 r2 y2 k2
  have c3_0 : w3.cell? ⟨w.heap.size, 0, none⟩ = some (.int .i64 4) := (k3.cell 0).trans rfl
  have c3_1 : w3.cell? ⟨w.heap.size, 1, none⟩ = some (.bool cl) := (k3.cell 1).trans rfl
  have c3_2 : w3.cell? ⟨w.heap.size, 2, none⟩ = some (.int .i64 (n : Nat)) := (k3.cell 2).trans rfl
  have c3_3 : w3.cell? ⟨w.heap.size, 3, none⟩ = some (.string id) := (k3.cell 3).trans rfl
  have c3_4 : w3.cell? ⟨w.heap.size, 4, none⟩ = some (.bool false) := (k3.cell 4).trans rfl
  have c3_5 : w3.cell? ⟨w.heap.size, 5, none⟩ = some (.string ⟨#[]⟩) := (k3.cell 5).trans rfl
  have c3_6 : w3.cell? ⟨w.heap.size, 6, none⟩ = some (.string ⟨#[]⟩) := (k3.cell 6).trans rfl
  have c3_7 : w3.cell? ⟨w.heap.size, 7, none⟩ = some (.int .i64 0) := (k3.cell 7).trans rfl
  have c3_8 : w3.cell? ⟨w.heap.size, 8, none⟩ = some (.bool false) := (k3.cell 8).trans rfl
  have c3_9 : w3.cell? ⟨w.heap.size, 9, none⟩ = some (.bool true) := (k3.cell 9).trans rfl
  have c3_10 : w3.cell? ⟨w.heap.size, 10, none⟩ = some (.string u) := (k3.cell 10).trans rfl
  have c3_11 : w3.cell? ⟨w.heap.size, 11, none⟩ = some (.bool true) := (k3.cell 11).trans rfl
  have c3_12 : w3.cell? ⟨w.heap.size, 12, none⟩ = some (.string p) := (k3.cell 12).trans rfl
  replace k3 := Lib.hid k3
  replace r3 := Lib.hid r3
  replace y3 := Lib.hid y3
  replace q0 := Lib.hid q0
  go_wp2_with fail
  refine (F.out _).mono ?_
  rintro e w4 ⟨rfl, b4⟩
  have a4 := lit_two w4 4 (fl 0 cl false false true true 5)
  have x4 := ext_alloc w4 (.cells #[.int .u8 ((4 : Nat) : Int), .int .u8 ((fl 0 cl false false true true 5 : Nat) : Int)] 5)
  have b4 := ext_trans b4 x4
  clear x4
  have k4 := k3.out.ext b4
  have r4 := Wr.ext r3.out b4
  have y4 := ext_trans y3.out b4
  replace r4 := Lib.hid r4
  replace y4 := Lib.hid y4
  replace k4 := Lib.hid k4
  replace b4 := Lib.hid b4
  replace a4 := Lib.hid a4
  go_wp2_with fail
  refine (add_st w1.heap.size S0 ([4, fl 0 cl false false true true 5], 0) _ _ r4.out a4.out (by simp only [List.length_cons, List.length_nil]; omega)).mono ?_
  rintro e w5 ⟨S1, q1, rfl, r5, b5⟩
  have t1 : S1.1.length ≤ 8 := by rw [q1]; refine Nat.le_trans (st_len _ _) ?_; simp only [List.length_cons, List.length_nil]; omega
  have k5 := k4.out.below b5 z1
  have y5 := y4.out.trans b5
  clear b5 a4 r4 y4 k4
  clear c3_0
  clear c3_1
  clear c3_2
  clear c3_3
  clear c3_4
  clear c3_5
  clear c3_6
  clear c3_7
  clear c3_8
  clear c3_9
  clear c3_10
  clear c3_11
  clear c3_12
  have c5_2 : w5.cell? ⟨w.heap.size, 2, none⟩ = some (.int .i64 (n : Nat)) := (k5.cell 2).trans rfl
  replace k5 := Lib.hid k5
  replace r5 := Lib.hid r5
  replace y5 := Lib.hid y5
  replace q1 := Lib.hid q1
  go_wp2_with fail
  refine (u_two n _ hn).mono ?_
  rintro e w6 ⟨v6, rfl, a6, b6⟩
  have k6 := k5.out.ext b6
  have r6 := Wr.ext r5.out b6
  have y6 := ext_trans y5.out b6
  replace r6 := Lib.hid r6
  replace y6 := Lib.hid y6
  replace k6 := Lib.hid k6
  replace b6 := Lib.hid b6
  replace a6 := Lib.hid a6
  go_wp2_with fail
  refine (add_st w1.heap.size S1 ([n / 256, n % 256], 0) v6 _ r6.out a6.out (by simp only [List.length_cons, List.length_nil]; omega)).mono ?_
  rintro e w7 ⟨S2, q2, rfl, r7, b7⟩
  have t2 : S2.1.length ≤ 10 := by rw [q2]; refine Nat.le_trans (st_len _ _) ?_; simp only [List.length_cons, List.length_nil]; omega
  have k7 := k6.out.below b7 z1
  have y7 := y6.out.trans b7
  clear b7 a6 r6 y6 k6
  clear c5_2
  have c7_3 : w7.cell? ⟨w.heap.size, 3, none⟩ = some (.string id) := (k7.cell 3).trans rfl
  replace k7 := Lib.hid k7
  replace r7 := Lib.hid r7
  replace y7 := Lib.hid y7
  replace q2 := Lib.hid q2
  go_wp2_with fail
  refine (u_put id _).mono ?_
  rintro e w8 ⟨v8, rfl, a8, b8⟩
  have k8 := k7.out.ext b8
  have r8 := Wr.ext r7.out b8
  have y8 := ext_trans y7.out b8
  replace r8 := Lib.hid r8
  replace y8 := Lib.hid y8
  replace k8 := Lib.hid k8
  replace b8 := Lib.hid b8
  replace a8 := Lib.hid a8
  have l8 := uL_len id
  go_wp2_with fail
  refine (add_st w1.heap.size S2 (uL id, textE id) v8 _ r8.out a8.out (by simp only [List.length_nil]; omega)).mono ?_
  rintro e w9 ⟨S3, q3, rfl, r9, b9⟩
  have t3 : S3.1.length ≤ 65547 := by rw [q3]; refine Nat.le_trans (st_len _ _) ?_; simp only [List.length_cons, List.length_nil]; omega
  have k9 := k8.out.below b9 z1
  have y9 := y8.out.trans b9
  clear b9 a8 r8 y8 k8
  clear c7_3
  have c9_4 : w9.cell? ⟨w.heap.size, 4, none⟩ = some (.bool false) := (k9.cell 4).trans rfl
  have c9_9 : w9.cell? ⟨w.heap.size, 9, none⟩ = some (.bool true) := (k9.cell 9).trans rfl
  have c9_10 : w9.cell? ⟨w.heap.size, 10, none⟩ = some (.string u) := (k9.cell 10).trans rfl
  replace k9 := Lib.hid k9
  replace r9 := Lib.hid r9
  replace y9 := Lib.hid y9
  replace q3 := Lib.hid q3
  go_wp2_with fail
  refine (u_put u _).mono ?_
  rintro e w10 ⟨v10, rfl, a10, b10⟩
  have k10 := k9.out.ext b10
  have r10 := Wr.ext r9.out b10
  have y10 := ext_trans y9.out b10
  replace r10 := Lib.hid r10
  replace y10 := Lib.hid y10
  replace k10 := Lib.hid k10
  replace b10 := Lib.hid b10
  replace a10 := Lib.hid a10
  have l10 := uL_len u
  go_wp2_with fail
  refine (add_st w1.heap.size S3 (uL u, textE u) v10 _ r10.out a10.out (by simp only [List.length_nil]; omega)).mono ?_
  rintro e w11 ⟨S4, q4, rfl, r11, b11⟩
  have t4 : S4.1.length ≤ 131084 := by rw [q4]; refine Nat.le_trans (st_len _ _) ?_; simp only [List.length_cons, List.length_nil]; omega
  have k11 := k10.out.below b11 z1
  have y11 := y10.out.trans b11
  clear b11 a10 r10 y10 k10
  clear c9_4
  clear c9_9
  clear c9_10
  have c11_11 : w11.cell? ⟨w.heap.size, 11, none⟩ = some (.bool true) := (k11.cell 11).trans rfl
  have c11_12 : w11.cell? ⟨w.heap.size, 12, none⟩ = some (.string p) := (k11.cell 12).trans rfl
  replace k11 := Lib.hid k11
  replace r11 := Lib.hid r11
  replace y11 := Lib.hid y11
  replace q4 := Lib.hid q4
  go_wp2_with fail
  refine (u_raw p _).mono ?_
  rintro e w12 ⟨v12, rfl, a12, b12⟩
  have k12 := k11.out.ext b12
  have r12 := Wr.ext r11.out b12
  have y12 := ext_trans y11.out b12
  replace r12 := Lib.hid r12
  replace y12 := Lib.hid y12
  replace k12 := Lib.hid k12
  replace b12 := Lib.hid b12
  replace a12 := Lib.hid a12
  have l12 := rL_len p
  go_wp2_with fail
  refine (add_st w1.heap.size S4 (rL p, laidE p) v12 _ r12.out a12.out (by simp only [List.length_nil]; omega)).mono ?_
  rintro e w13 ⟨S5, q5, rfl, r13, b13⟩
  have t5 : S5.1.length ≤ 196621 := by rw [q5]; refine Nat.le_trans (st_len _ _) ?_; simp only [List.length_cons, List.length_nil]; omega
  have k13 := k12.out.below b13 z1
  have y13 := y12.out.trans b13
  clear b13 a12 r12 y12 k12
  clear c11_11
  clear c11_12
  replace k13 := Lib.hid k13
  replace r13 := Lib.hid r13
  replace y13 := Lib.hid y13
  replace q5 := Lib.hid q5
  have hfin : gat [([0, 4, 77, 81, 84, 84], 0), ([4, fl 0 cl false false true true 5], 0), ([n / 256, n % 256], 0), (uL id, textE id), (uL u, textE u), (rL p, laidE p)] = S5 := by
    unfold gat
    simp only [List.foldl]
    rw [q5.out, q4.out, q3.out, q2.out, q1.out, q0.out]
  obtain ⟨l, E⟩ := S5
  replace hfin := Lib.hid hfin
  simp only at t5
  obtain ⟨vf, hB, hO⟩ := r13.out
  have d0 := hB.cell 0
  have d1 := hB.cell 1
  simp only [List.getElem?_toArray, List.getElem?_cons_zero, List.getElem?_cons_succ] at d0 d1
  have Bf : Below w.heap.size w w13 := B1.out.trans ((y13.out).mono (by omega))
  replace hO := Lib.hid hO
  replace hB := Lib.hid hB
  replace Bf := Lib.hid Bf
  by_cases hE : E = 0
  · subst hE
    obtain ⟨af, cf, rfl⟩ := own_slice hO.out
    by_cases hl : 4096 < l.length
    · have hl' : (4096 : Int) < l.length := by omega
      have hf : fin (l, 0) = ([], 3) := by unfold fin; rw [if_neg (by simp), if_pos hl]
      replace hf := Lib.hid hf
      go_wp2_with fail
      go_ret2
      rw [hfin.out, hf.out]
      exact ⟨_, rfl, nil_bytes _, Bf.out⟩
    · have hl' : (l.length : Int) ≤ 4096 := by omega
      have hf : fin (l, 0) = (l, 0) := by unfold fin; rw [if_neg (by simp), if_neg hl]
      replace hf := Lib.hid hf
      clear hl
      go_wp2_with fail
      go_ret2
      rw [hfin.out, hf.out]
      exact ⟨_, rfl, BytesAt.of_own hO.out, Bf.out⟩
  · have hE' : (E != 0) = true := by simpa using hE
    have hf : fin (l, E) = ([], E) := by unfold fin; rw [if_pos hE]
    replace hf := Lib.hid hf
    replace hE := Lib.hid hE
    go_wp2_with fail
    go_quiet (fail)
    go_wp2_with fail
    go_ret2
    rw [hfin.out, hf.out]
    exact ⟨_, rfl, nil_bytes _, below_drewN Bf.out _⟩
set_option maxHeartbeats 4000000 in
set_option maxRecDepth 100000 in
theorem cput_ftf (cl : Bool) (n : Nat) (id : ByteArray) (u : ByteArray) (w : World) (hn : n ≤ 65535) (h0 : conE 4 (n : Nat) false ⟨#[]⟩ ⟨#[]⟩ 0 false true u false ⟨#[]⟩ = 0) :
    Calls Tryd.prog 75 #[con 4 cl (n : Nat) id false ⟨#[]⟩ ⟨#[]⟩ 0 false true u false ⟨#[]⟩] w (Numb (fin (gat [([0, 4, 77, 81, 84, 84], 0), ([4, fl 0 cl false false false true 5], 0), ([n / 256, n % 256], 0), (uL id, textE id), (uL u, textE u)])).1 (fin (gat [([0, 4, 77, 81, 84, 84], 0), ([4, fl 0 cl false false false true 5], 0), ([n / 256, n % 256], 0), (uL id, textE id), (uL u, textE u)])).2 w) := by
  have R := fun W => wrongs55 4 cl (n : Nat) id false ⟨#[]⟩ ⟨#[]⟩ 0 false true u false ⟨#[]⟩ W
  rw [h0] at R
  replace R := Lib.hid R
  clear h0
  have F := fun W => flags_any 4 cl (n : Nat) id false ⟨#[]⟩ ⟨#[]⟩ (0 : Nat) false true u false ⟨#[]⟩ W (by decide)
  replace F := Lib.hid F
  have hn' : (n : Int) ≤ 65535 := by omega
  unfold con at R F ⊢
  obtain ⟨CS, hCS⟩ : ∃ CS : Array Value, CS = #[.int .i64 4, .bool cl, .int .i64 (n : Nat), .string id, .bool false, .string ⟨#[]⟩, .string ⟨#[]⟩, .int .i64 0, .bool false, .bool true, .string u, .bool false, .string ⟨#[]⟩] := ⟨_, rfl⟩
  have k0 : Blk (w.alloc (.cells CS 29)) w.heap.size 29 CS := Blk.new w 29 CS
  have b0 := ext_alloc w (.cells CS 29)
  rw [hCS] at k0 b0
  clear hCS CS
  replace b0 := Lib.hid b0
  replace k0 := Lib.hid k0
  go_enter Tryd.func75, Tryd.ntmps75
  go_wp2_with fail
  refine (R.out _).mono ?_
  rintro e w1 ⟨rfl, b1⟩
  have k1 := k0.out.ext b1
  have B1 : Below w.heap.size w w1 := ext_trans b0.out b1
  have z1 : w.heap.size < w1.heap.size := by have := b1.size; simp at this; omega
  have r1 := wr_new w1
  have g1 : w1.heap.size < (w1.alloc (.cells #[.slice none 0 0, .int .i64 0] 139)).heap.size := by simp
  have y1 : Below w1.heap.size w1 (w1.alloc (.cells #[.slice none 0 0, .int .i64 0] 139)) := ext_alloc _ _
  have k1a := k1.ext y1
  clear b1
  replace k1 := Lib.hid k1
  replace k1a := Lib.hid k1a
  replace r1 := Lib.hid r1
  replace y1 := Lib.hid y1
  replace B1 := Lib.hid B1
  go_wp2_with fail
  refine (u_put ⟨#[77, 81, 84, 84]⟩ _).mono ?_
  rintro e w2 ⟨v2, rfl, a2, b2⟩
  have mq : uL ⟨#[77, 81, 84, 84]⟩ = [0, 4, 77, 81, 84, 84] := by decide +kernel
  rw [mq] at a2
  clear mq
  have me : textE ⟨#[77, 81, 84, 84]⟩ = 0 := by decide +kernel
  have k2 := k1a.out.ext b2
  have r2 := Wr.ext r1.out b2
  have y2 := ext_trans y1.out b2
  replace r2 := Lib.hid r2
  replace y2 := Lib.hid y2
  replace k2 := Lib.hid k2
  replace b2 := Lib.hid b2
  replace a2 := Lib.hid a2
  go_wp2_with fail
  refine (add_st w1.heap.size ([], 0) ([0, 4, 77, 81, 84, 84], 0) v2 _ r2.out a2.out (by decide)).mono ?_
  rintro e w3 ⟨S0, q0, rfl, r3, b3⟩
  have t0 : S0.1.length ≤ 6 := by rw [q0]; refine Nat.le_trans (st_len _ _) ?_; simp only [List.length_cons, List.length_nil]; omega
  have k3 := k2.out.below b3 z1
  have y3 := y2.out.trans b3
  clear b3 a2 r2 y2 k2
  have c3_0 : w3.cell? ⟨w.heap.size, 0, none⟩ = some (.int .i64 4) := (k3.cell 0).trans rfl
  have c3_1 : w3.cell? ⟨w.heap.size, 1, none⟩ = some (.bool cl) := (k3.cell 1).trans rfl
  have c3_2 : w3.cell? ⟨w.heap.size, 2, none⟩ = some (.int .i64 (n : Nat)) := (k3.cell 2).trans rfl
  have c3_3 : w3.cell? ⟨w.heap.size, 3, none⟩ = some (.string id) := (k3.cell 3).trans rfl
  have c3_4 : w3.cell? ⟨w.heap.size, 4, none⟩ = some (.bool false) := (k3.cell 4).trans rfl
  have c3_5 : w3.cell? ⟨w.heap.size, 5, none⟩ = some (.string ⟨#[]⟩) := (k3.cell 5).trans rfl
  have c3_6 : w3.cell? ⟨w.heap.size, 6, none⟩ = some (.string ⟨#[]⟩) := (k3.cell 6).trans rfl
  have c3_7 : w3.cell? ⟨w.heap.size, 7, none⟩ = some (.int .i64 0) := (k3.cell 7).trans rfl
  have c3_8 : w3.cell? ⟨w.heap.size, 8, none⟩ = some (.bool false) := (k3.cell 8).trans rfl
  have c3_9 : w3.cell? ⟨w.heap.size, 9, none⟩ = some (.bool true) := (k3.cell 9).trans rfl
  have c3_10 : w3.cell? ⟨w.heap.size, 10, none⟩ = some (.string u) := (k3.cell 10).trans rfl
  have c3_11 : w3.cell? ⟨w.heap.size, 11, none⟩ = some (.bool false) := (k3.cell 11).trans rfl
  have c3_12 : w3.cell? ⟨w.heap.size, 12, none⟩ = some (.string ⟨#[]⟩) := (k3.cell 12).trans rfl
  replace k3 := Lib.hid k3
  replace r3 := Lib.hid r3
  replace y3 := Lib.hid y3
  replace q0 := Lib.hid q0
  go_wp2_with fail
  refine (F.out _).mono ?_
  rintro e w4 ⟨rfl, b4⟩
  have a4 := lit_two w4 4 (fl 0 cl false false false true 5)
  have x4 := ext_alloc w4 (.cells #[.int .u8 ((4 : Nat) : Int), .int .u8 ((fl 0 cl false false false true 5 : Nat) : Int)] 5)
  have b4 := ext_trans b4 x4
  clear x4
  have k4 := k3.out.ext b4
  have r4 := Wr.ext r3.out b4
  have y4 := ext_trans y3.out b4
  replace r4 := Lib.hid r4
  replace y4 := Lib.hid y4
  replace k4 := Lib.hid k4
  replace b4 := Lib.hid b4
  replace a4 := Lib.hid a4
  go_wp2_with fail
  refine (add_st w1.heap.size S0 ([4, fl 0 cl false false false true 5], 0) _ _ r4.out a4.out (by simp only [List.length_cons, List.length_nil]; omega)).mono ?_
  rintro e w5 ⟨S1, q1, rfl, r5, b5⟩
  have t1 : S1.1.length ≤ 8 := by rw [q1]; refine Nat.le_trans (st_len _ _) ?_; simp only [List.length_cons, List.length_nil]; omega
  have k5 := k4.out.below b5 z1
  have y5 := y4.out.trans b5
  clear b5 a4 r4 y4 k4
  clear c3_0
  clear c3_1
  clear c3_2
  clear c3_3
  clear c3_4
  clear c3_5
  clear c3_6
  clear c3_7
  clear c3_8
  clear c3_9
  clear c3_10
  clear c3_11
  clear c3_12
  have c5_2 : w5.cell? ⟨w.heap.size, 2, none⟩ = some (.int .i64 (n : Nat)) := (k5.cell 2).trans rfl
  replace k5 := Lib.hid k5
  replace r5 := Lib.hid r5
  replace y5 := Lib.hid y5
  replace q1 := Lib.hid q1
  go_wp2_with fail
  refine (u_two n _ hn).mono ?_
  rintro e w6 ⟨v6, rfl, a6, b6⟩
  have k6 := k5.out.ext b6
  have r6 := Wr.ext r5.out b6
  have y6 := ext_trans y5.out b6
  replace r6 := Lib.hid r6
  replace y6 := Lib.hid y6
  replace k6 := Lib.hid k6
  replace b6 := Lib.hid b6
  replace a6 := Lib.hid a6
  go_wp2_with fail
  refine (add_st w1.heap.size S1 ([n / 256, n % 256], 0) v6 _ r6.out a6.out (by simp only [List.length_cons, List.length_nil]; omega)).mono ?_
  rintro e w7 ⟨S2, q2, rfl, r7, b7⟩
  have t2 : S2.1.length ≤ 10 := by rw [q2]; refine Nat.le_trans (st_len _ _) ?_; simp only [List.length_cons, List.length_nil]; omega
  have k7 := k6.out.below b7 z1
  have y7 := y6.out.trans b7
  clear b7 a6 r6 y6 k6
  clear c5_2
  have c7_3 : w7.cell? ⟨w.heap.size, 3, none⟩ = some (.string id) := (k7.cell 3).trans rfl
  replace k7 := Lib.hid k7
  replace r7 := Lib.hid r7
  replace y7 := Lib.hid y7
  replace q2 := Lib.hid q2
  go_wp2_with fail
  refine (u_put id _).mono ?_
  rintro e w8 ⟨v8, rfl, a8, b8⟩
  have k8 := k7.out.ext b8
  have r8 := Wr.ext r7.out b8
  have y8 := ext_trans y7.out b8
  replace r8 := Lib.hid r8
  replace y8 := Lib.hid y8
  replace k8 := Lib.hid k8
  replace b8 := Lib.hid b8
  replace a8 := Lib.hid a8
  have l8 := uL_len id
  go_wp2_with fail
  refine (add_st w1.heap.size S2 (uL id, textE id) v8 _ r8.out a8.out (by simp only [List.length_nil]; omega)).mono ?_
  rintro e w9 ⟨S3, q3, rfl, r9, b9⟩
  have t3 : S3.1.length ≤ 65547 := by rw [q3]; refine Nat.le_trans (st_len _ _) ?_; simp only [List.length_cons, List.length_nil]; omega
  have k9 := k8.out.below b9 z1
  have y9 := y8.out.trans b9
  clear b9 a8 r8 y8 k8
  clear c7_3
  have c9_4 : w9.cell? ⟨w.heap.size, 4, none⟩ = some (.bool false) := (k9.cell 4).trans rfl
  have c9_9 : w9.cell? ⟨w.heap.size, 9, none⟩ = some (.bool true) := (k9.cell 9).trans rfl
  have c9_10 : w9.cell? ⟨w.heap.size, 10, none⟩ = some (.string u) := (k9.cell 10).trans rfl
  replace k9 := Lib.hid k9
  replace r9 := Lib.hid r9
  replace y9 := Lib.hid y9
  replace q3 := Lib.hid q3
  go_wp2_with fail
  refine (u_put u _).mono ?_
  rintro e w10 ⟨v10, rfl, a10, b10⟩
  have k10 := k9.out.ext b10
  have r10 := Wr.ext r9.out b10
  have y10 := ext_trans y9.out b10
  replace r10 := Lib.hid r10
  replace y10 := Lib.hid y10
  replace k10 := Lib.hid k10
  replace b10 := Lib.hid b10
  replace a10 := Lib.hid a10
  have l10 := uL_len u
  go_wp2_with fail
  refine (add_st w1.heap.size S3 (uL u, textE u) v10 _ r10.out a10.out (by simp only [List.length_nil]; omega)).mono ?_
  rintro e w11 ⟨S4, q4, rfl, r11, b11⟩
  have t4 : S4.1.length ≤ 131084 := by rw [q4]; refine Nat.le_trans (st_len _ _) ?_; simp only [List.length_cons, List.length_nil]; omega
  have k11 := k10.out.below b11 z1
  have y11 := y10.out.trans b11
  clear b11 a10 r10 y10 k10
  clear c9_4
  clear c9_9
  clear c9_10
  have c11_11 : w11.cell? ⟨w.heap.size, 11, none⟩ = some (.bool false) := (k11.cell 11).trans rfl
  replace k11 := Lib.hid k11
  replace r11 := Lib.hid r11
  replace y11 := Lib.hid y11
  replace q4 := Lib.hid q4
  have hfin : gat [([0, 4, 77, 81, 84, 84], 0), ([4, fl 0 cl false false false true 5], 0), ([n / 256, n % 256], 0), (uL id, textE id), (uL u, textE u)] = S4 := by
    unfold gat
    simp only [List.foldl]
    rw [q4.out, q3.out, q2.out, q1.out, q0.out]
  obtain ⟨l, E⟩ := S4
  replace hfin := Lib.hid hfin
  simp only at t4
  obtain ⟨vf, hB, hO⟩ := r11.out
  have d0 := hB.cell 0
  have d1 := hB.cell 1
  simp only [List.getElem?_toArray, List.getElem?_cons_zero, List.getElem?_cons_succ] at d0 d1
  have Bf : Below w.heap.size w w11 := B1.out.trans ((y11.out).mono (by omega))
  replace hO := Lib.hid hO
  replace hB := Lib.hid hB
  replace Bf := Lib.hid Bf
  by_cases hE : E = 0
  · subst hE
    obtain ⟨af, cf, rfl⟩ := own_slice hO.out
    by_cases hl : 4096 < l.length
    · have hl' : (4096 : Int) < l.length := by omega
      have hf : fin (l, 0) = ([], 3) := by unfold fin; rw [if_neg (by simp), if_pos hl]
      replace hf := Lib.hid hf
      go_wp2_with fail
      go_ret2
      rw [hfin.out, hf.out]
      exact ⟨_, rfl, nil_bytes _, Bf.out⟩
    · have hl' : (l.length : Int) ≤ 4096 := by omega
      have hf : fin (l, 0) = (l, 0) := by unfold fin; rw [if_neg (by simp), if_neg hl]
      replace hf := Lib.hid hf
      clear hl
      go_wp2_with fail
      go_ret2
      rw [hfin.out, hf.out]
      exact ⟨_, rfl, BytesAt.of_own hO.out, Bf.out⟩
  · have hE' : (E != 0) = true := by simpa using hE
    have hf : fin (l, E) = ([], E) := by unfold fin; rw [if_pos hE]
    replace hf := Lib.hid hf
    replace hE := Lib.hid hE
    go_wp2_with fail
    go_quiet (fail)
    go_wp2_with fail
    go_ret2
    rw [hfin.out, hf.out]
    exact ⟨_, rfl, nil_bytes _, below_drewN Bf.out _⟩
set_option maxHeartbeats 4000000 in
set_option maxRecDepth 100000 in
theorem cput_fff (cl : Bool) (n : Nat) (id : ByteArray) (w : World) (hn : n ≤ 65535) (h0 : conE 4 (n : Nat) false ⟨#[]⟩ ⟨#[]⟩ 0 false false ⟨#[]⟩ false ⟨#[]⟩ = 0) :
    Calls Tryd.prog 75 #[con 4 cl (n : Nat) id false ⟨#[]⟩ ⟨#[]⟩ 0 false false ⟨#[]⟩ false ⟨#[]⟩] w (Numb (fin (gat [([0, 4, 77, 81, 84, 84], 0), ([4, fl 0 cl false false false false 5], 0), ([n / 256, n % 256], 0), (uL id, textE id)])).1 (fin (gat [([0, 4, 77, 81, 84, 84], 0), ([4, fl 0 cl false false false false 5], 0), ([n / 256, n % 256], 0), (uL id, textE id)])).2 w) := by
  have R := fun W => wrongs55 4 cl (n : Nat) id false ⟨#[]⟩ ⟨#[]⟩ 0 false false ⟨#[]⟩ false ⟨#[]⟩ W
  rw [h0] at R
  replace R := Lib.hid R
  clear h0
  have F := fun W => flags_any 4 cl (n : Nat) id false ⟨#[]⟩ ⟨#[]⟩ (0 : Nat) false false ⟨#[]⟩ false ⟨#[]⟩ W (by decide)
  replace F := Lib.hid F
  have hn' : (n : Int) ≤ 65535 := by omega
  unfold con at R F ⊢
  obtain ⟨CS, hCS⟩ : ∃ CS : Array Value, CS = #[.int .i64 4, .bool cl, .int .i64 (n : Nat), .string id, .bool false, .string ⟨#[]⟩, .string ⟨#[]⟩, .int .i64 0, .bool false, .bool false, .string ⟨#[]⟩, .bool false, .string ⟨#[]⟩] := ⟨_, rfl⟩
  have k0 : Blk (w.alloc (.cells CS 29)) w.heap.size 29 CS := Blk.new w 29 CS
  have b0 := ext_alloc w (.cells CS 29)
  rw [hCS] at k0 b0
  clear hCS CS
  replace b0 := Lib.hid b0
  replace k0 := Lib.hid k0
  go_enter Tryd.func75, Tryd.ntmps75
  go_wp2_with fail
  refine (R.out _).mono ?_
  rintro e w1 ⟨rfl, b1⟩
  have k1 := k0.out.ext b1
  have B1 : Below w.heap.size w w1 := ext_trans b0.out b1
  have z1 : w.heap.size < w1.heap.size := by have := b1.size; simp at this; omega
  have r1 := wr_new w1
  have g1 : w1.heap.size < (w1.alloc (.cells #[.slice none 0 0, .int .i64 0] 139)).heap.size := by simp
  have y1 : Below w1.heap.size w1 (w1.alloc (.cells #[.slice none 0 0, .int .i64 0] 139)) := ext_alloc _ _
  have k1a := k1.ext y1
  clear b1
  replace k1 := Lib.hid k1
  replace k1a := Lib.hid k1a
  replace r1 := Lib.hid r1
  replace y1 := Lib.hid y1
  replace B1 := Lib.hid B1
  go_wp2_with fail
  refine (u_put ⟨#[77, 81, 84, 84]⟩ _).mono ?_
  rintro e w2 ⟨v2, rfl, a2, b2⟩
  have mq : uL ⟨#[77, 81, 84, 84]⟩ = [0, 4, 77, 81, 84, 84] := by decide +kernel
  rw [mq] at a2
  clear mq
  have me : textE ⟨#[77, 81, 84, 84]⟩ = 0 := by decide +kernel
  have k2 := k1a.out.ext b2
  have r2 := Wr.ext r1.out b2
  have y2 := ext_trans y1.out b2
  replace r2 := Lib.hid r2
  replace y2 := Lib.hid y2
  replace k2 := Lib.hid k2
  replace b2 := Lib.hid b2
  replace a2 := Lib.hid a2
  go_wp2_with fail
  refine (add_st w1.heap.size ([], 0) ([0, 4, 77, 81, 84, 84], 0) v2 _ r2.out a2.out (by decide)).mono ?_
  rintro e w3 ⟨S0, q0, rfl, r3, b3⟩
  have t0 : S0.1.length ≤ 6 := by rw [q0]; refine Nat.le_trans (st_len _ _) ?_; simp only [List.length_cons, List.length_nil]; omega
  have k3 := k2.out.below b3 z1
  have y3 := y2.out.trans b3
  clear b3 a2 r2 y2 k2
  have c3_0 : w3.cell? ⟨w.heap.size, 0, none⟩ = some (.int .i64 4) := (k3.cell 0).trans rfl
  have c3_1 : w3.cell? ⟨w.heap.size, 1, none⟩ = some (.bool cl) := (k3.cell 1).trans rfl
  have c3_2 : w3.cell? ⟨w.heap.size, 2, none⟩ = some (.int .i64 (n : Nat)) := (k3.cell 2).trans rfl
  have c3_3 : w3.cell? ⟨w.heap.size, 3, none⟩ = some (.string id) := (k3.cell 3).trans rfl
  have c3_4 : w3.cell? ⟨w.heap.size, 4, none⟩ = some (.bool false) := (k3.cell 4).trans rfl
  have c3_5 : w3.cell? ⟨w.heap.size, 5, none⟩ = some (.string ⟨#[]⟩) := (k3.cell 5).trans rfl
  have c3_6 : w3.cell? ⟨w.heap.size, 6, none⟩ = some (.string ⟨#[]⟩) := (k3.cell 6).trans rfl
  have c3_7 : w3.cell? ⟨w.heap.size, 7, none⟩ = some (.int .i64 0) := (k3.cell 7).trans rfl
  have c3_8 : w3.cell? ⟨w.heap.size, 8, none⟩ = some (.bool false) := (k3.cell 8).trans rfl
  have c3_9 : w3.cell? ⟨w.heap.size, 9, none⟩ = some (.bool false) := (k3.cell 9).trans rfl
  have c3_10 : w3.cell? ⟨w.heap.size, 10, none⟩ = some (.string ⟨#[]⟩) := (k3.cell 10).trans rfl
  have c3_11 : w3.cell? ⟨w.heap.size, 11, none⟩ = some (.bool false) := (k3.cell 11).trans rfl
  have c3_12 : w3.cell? ⟨w.heap.size, 12, none⟩ = some (.string ⟨#[]⟩) := (k3.cell 12).trans rfl
  replace k3 := Lib.hid k3
  replace r3 := Lib.hid r3
  replace y3 := Lib.hid y3
  replace q0 := Lib.hid q0
  go_wp2_with fail
  refine (F.out _).mono ?_
  rintro e w4 ⟨rfl, b4⟩
  have a4 := lit_two w4 4 (fl 0 cl false false false false 5)
  have x4 := ext_alloc w4 (.cells #[.int .u8 ((4 : Nat) : Int), .int .u8 ((fl 0 cl false false false false 5 : Nat) : Int)] 5)
  have b4 := ext_trans b4 x4
  clear x4
  have k4 := k3.out.ext b4
  have r4 := Wr.ext r3.out b4
  have y4 := ext_trans y3.out b4
  replace r4 := Lib.hid r4
  replace y4 := Lib.hid y4
  replace k4 := Lib.hid k4
  replace b4 := Lib.hid b4
  replace a4 := Lib.hid a4
  go_wp2_with fail
  refine (add_st w1.heap.size S0 ([4, fl 0 cl false false false false 5], 0) _ _ r4.out a4.out (by simp only [List.length_cons, List.length_nil]; omega)).mono ?_
  rintro e w5 ⟨S1, q1, rfl, r5, b5⟩
  have t1 : S1.1.length ≤ 8 := by rw [q1]; refine Nat.le_trans (st_len _ _) ?_; simp only [List.length_cons, List.length_nil]; omega
  have k5 := k4.out.below b5 z1
  have y5 := y4.out.trans b5
  clear b5 a4 r4 y4 k4
  clear c3_0
  clear c3_1
  clear c3_2
  clear c3_3
  clear c3_4
  clear c3_5
  clear c3_6
  clear c3_7
  clear c3_8
  clear c3_9
  clear c3_10
  clear c3_11
  clear c3_12
  have c5_2 : w5.cell? ⟨w.heap.size, 2, none⟩ = some (.int .i64 (n : Nat)) := (k5.cell 2).trans rfl
  replace k5 := Lib.hid k5
  replace r5 := Lib.hid r5
  replace y5 := Lib.hid y5
  replace q1 := Lib.hid q1
  go_wp2_with fail
  refine (u_two n _ hn).mono ?_
  rintro e w6 ⟨v6, rfl, a6, b6⟩
  have k6 := k5.out.ext b6
  have r6 := Wr.ext r5.out b6
  have y6 := ext_trans y5.out b6
  replace r6 := Lib.hid r6
  replace y6 := Lib.hid y6
  replace k6 := Lib.hid k6
  replace b6 := Lib.hid b6
  replace a6 := Lib.hid a6
  go_wp2_with fail
  refine (add_st w1.heap.size S1 ([n / 256, n % 256], 0) v6 _ r6.out a6.out (by simp only [List.length_cons, List.length_nil]; omega)).mono ?_
  rintro e w7 ⟨S2, q2, rfl, r7, b7⟩
  have t2 : S2.1.length ≤ 10 := by rw [q2]; refine Nat.le_trans (st_len _ _) ?_; simp only [List.length_cons, List.length_nil]; omega
  have k7 := k6.out.below b7 z1
  have y7 := y6.out.trans b7
  clear b7 a6 r6 y6 k6
  clear c5_2
  have c7_3 : w7.cell? ⟨w.heap.size, 3, none⟩ = some (.string id) := (k7.cell 3).trans rfl
  replace k7 := Lib.hid k7
  replace r7 := Lib.hid r7
  replace y7 := Lib.hid y7
  replace q2 := Lib.hid q2
  go_wp2_with fail
  refine (u_put id _).mono ?_
  rintro e w8 ⟨v8, rfl, a8, b8⟩
  have k8 := k7.out.ext b8
  have r8 := Wr.ext r7.out b8
  have y8 := ext_trans y7.out b8
  replace r8 := Lib.hid r8
  replace y8 := Lib.hid y8
  replace k8 := Lib.hid k8
  replace b8 := Lib.hid b8
  replace a8 := Lib.hid a8
  have l8 := uL_len id
  go_wp2_with fail
  refine (add_st w1.heap.size S2 (uL id, textE id) v8 _ r8.out a8.out (by simp only [List.length_nil]; omega)).mono ?_
  rintro e w9 ⟨S3, q3, rfl, r9, b9⟩
  have t3 : S3.1.length ≤ 65547 := by rw [q3]; refine Nat.le_trans (st_len _ _) ?_; simp only [List.length_cons, List.length_nil]; omega
  have k9 := k8.out.below b9 z1
  have y9 := y8.out.trans b9
  clear b9 a8 r8 y8 k8
  clear c7_3
  have c9_4 : w9.cell? ⟨w.heap.size, 4, none⟩ = some (.bool false) := (k9.cell 4).trans rfl
  have c9_9 : w9.cell? ⟨w.heap.size, 9, none⟩ = some (.bool false) := (k9.cell 9).trans rfl
  have c9_11 : w9.cell? ⟨w.heap.size, 11, none⟩ = some (.bool false) := (k9.cell 11).trans rfl
  replace k9 := Lib.hid k9
  replace r9 := Lib.hid r9
  replace y9 := Lib.hid y9
  replace q3 := Lib.hid q3
  have hfin : gat [([0, 4, 77, 81, 84, 84], 0), ([4, fl 0 cl false false false false 5], 0), ([n / 256, n % 256], 0), (uL id, textE id)] = S3 := by
    unfold gat
    simp only [List.foldl]
    rw [q3.out, q2.out, q1.out, q0.out]
  obtain ⟨l, E⟩ := S3
  replace hfin := Lib.hid hfin
  simp only at t3
  obtain ⟨vf, hB, hO⟩ := r9.out
  have d0 := hB.cell 0
  have d1 := hB.cell 1
  simp only [List.getElem?_toArray, List.getElem?_cons_zero, List.getElem?_cons_succ] at d0 d1
  have Bf : Below w.heap.size w w9 := B1.out.trans ((y9.out).mono (by omega))
  replace hO := Lib.hid hO
  replace hB := Lib.hid hB
  replace Bf := Lib.hid Bf
  by_cases hE : E = 0
  · subst hE
    obtain ⟨af, cf, rfl⟩ := own_slice hO.out
    by_cases hl : 4096 < l.length
    · have hl' : (4096 : Int) < l.length := by omega
      have hf : fin (l, 0) = ([], 3) := by unfold fin; rw [if_neg (by simp), if_pos hl]
      replace hf := Lib.hid hf
      go_wp2_with fail
      go_ret2
      rw [hfin.out, hf.out]
      exact ⟨_, rfl, nil_bytes _, Bf.out⟩
    · have hl' : (l.length : Int) ≤ 4096 := by omega
      have hf : fin (l, 0) = (l, 0) := by unfold fin; rw [if_neg (by simp), if_neg hl]
      replace hf := Lib.hid hf
      clear hl
      go_wp2_with fail
      go_ret2
      rw [hfin.out, hf.out]
      exact ⟨_, rfl, BytesAt.of_own hO.out, Bf.out⟩
  · have hE' : (E != 0) = true := by simpa using hE
    have hf : fin (l, E) = ([], E) := by unfold fin; rw [if_pos hE]
    replace hf := Lib.hid hf
    replace hE := Lib.hid hE
    go_wp2_with fail
    go_quiet (fail)
    go_wp2_with fail
    go_ret2
    rw [hfin.out, hf.out]
    exact ⟨_, rfl, nil_bytes _, below_drewN Bf.out _⟩
end Go.Proofs.YtmpklaokgogigaaDoor

/-
  LAYER 13: who comes, laid by both sides; awake; ConnectPuts' walk.
-/
namespace Go.Proofs.YtmpklaokgogigaaDoor
set_option linter.unusedSimpArgs false
set_option linter.unusedVariables false
open Go.RowKit

def cparts (cl : Bool) (K : Int) (id : ByteArray) (hw : Bool) (wt wx : ByteArray) (wq : Int) (wr : Bool) (hu : Bool) (u : ByteArray) (hp : Bool) (p : ByteArray) : List (List Nat × Int) :=
  [([0, 4, 77, 81, 84, 84], 0), ([4, fl wq.toNat cl hw wr hp hu 5], 0), ([K.toNat / 256, K.toNat % 256], 0), (uL id, textE id)] ++
  (if hw then [(uL wt, textE wt), (rL wx, laidE wx)] else []) ++ (if hu then [(uL u, textE u)] else []) ++ (if hp then [(rL p, laidE p)] else [])
def conP (L : Int) (cl : Bool) (K : Int) (id : ByteArray) (hw : Bool) (wt wx : ByteArray) (wq : Int) (wr : Bool) (hu : Bool) (u : ByteArray) (hp : Bool) (p : ByteArray) : List Nat × Int :=
  if conE L K hw wt wx wq wr hu u hp p ≠ 0 then ([], conE L K hw wt wx wq wr hu u hp p) else fin (gat (cparts cl K id hw wt wx wq wr hu u hp p))
theorem conE_zero {L K : Int} {hw : Bool} {wt wx : ByteArray} {wq : Int} {wr : Bool} {hu : Bool} {u : ByteArray} {hp : Bool} {p : ByteArray} (h : conE L K hw wt wx wq wr hu u hp p = 0) :
    L = 4 ∧ 0 ≤ K ∧ K ≤ 65535 ∧ 0 ≤ wq ∧ wq ≤ 2 ∧ (hp = true → hu = true) ∧ (hw = false → wt = ⟨#[]⟩ ∧ wx = ⟨#[]⟩ ∧ wq = 0 ∧ wr = false) ∧ (hu = false → u = ⟨#[]⟩) ∧ (hp = false → p = ⟨#[]⟩) := by
  unfold conE at h
  by_cases a : L ≠ 4
  · rw [if_pos a] at h; cases h
  rw [if_neg a] at h
  by_cases b : K < 0 ∨ 65535 < K
  · rw [if_pos b] at h; cases h
  rw [if_neg b] at h
  by_cases c : (wq < 0 ∨ 2 < wq) ∨ (hp = true ∧ hu = false)
  · rw [if_pos c] at h; cases h
  rw [if_neg c] at h
  by_cases d : (hw = false ∧ zmsg wt wx wq wr = false) ∨ (hu = false ∧ u.size ≠ 0) ∨ (hp = false ∧ p.size ≠ 0)
  · rw [if_pos d] at h; cases h
  clear h
  refine ⟨by omega, by omega, by omega, by omega, by omega, fun k => ?_, fun k => ?_, fun k => ?_, fun k => ?_⟩
  · cases hu with
    | true => rfl
    | false => exact absurd (Or.inr ⟨k, rfl⟩) c
  · refine zmsg_iff ?_
    cases z : zmsg wt wx wq wr with
    | true => rfl
    | false => exact absurd (Or.inl ⟨k, z⟩) d
  · refine size0 ?_
    by_cases z : u.size = 0
    · exact z
    · exact absurd (Or.inr (Or.inl ⟨k, z⟩)) d
  · refine size0 ?_
    by_cases z : p.size = 0
    · exact z
    · exact absurd (Or.inr (Or.inr ⟨k, z⟩)) d
set_option maxRecDepth 100000 in
theorem cput_err (L : Int) (cl : Bool) (K : Int) (id : ByteArray) (hw : Bool) (wt wx : ByteArray) (wq : Int) (wr : Bool) (hu : Bool) (u : ByteArray) (hp : Bool) (p : ByteArray) (w : World) (E : Int)
    (R : ∀ W, Calls Tryd.prog 94 #[con L cl K id hw wt wx wq wr hu u hp p] W (Wrong E W)) (hE : E ≠ 0) :
    Calls Tryd.prog 75 #[con L cl K id hw wt wx wq wr hu u hp p] w (Numb [] E w) := by
  have h' : (E != 0) = true := by simpa using hE
  replace hE := Lib.hid hE
  replace R := Lib.hid R
  have b0 := Lib.hid (ext_alloc w (.cells #[.int .i64 L, .bool cl, .int .i64 K, .string id, .bool hw, .string wt, .string wx, .int .i64 wq, .bool wr, .bool hu, .string u, .bool hp, .string p] 29))
  unfold con at *
  go_enter Tryd.func75, Tryd.ntmps75
  go_wp2_with fail
  refine (R.out _).mono ?_
  rintro e w1 ⟨rfl, b1⟩
  go_wp2_with fail
  go_ret2
  exact ⟨_, rfl, nil_bytes _, ext_trans b0.out b1⟩
theorem cputs (L : Int) (cl : Bool) (K : Int) (id : ByteArray) (hw : Bool) (wt wx : ByteArray) (wq : Int) (wr : Bool) (hu : Bool) (u : ByteArray) (hp : Bool) (p : ByteArray) (w : World) (hx : wx.size ≤ 140737488351232) (hpp : p.size ≤ 140737488351232) :
    Calls Tryd.prog 75 #[con L cl K id hw wt wx wq wr hu u hp p] w (Numb (conP L cl K id hw wt wx wq wr hu u hp p).1 (conP L cl K id hw wt wx wq wr hu u hp p).2 w) := by
  by_cases h : conE L K hw wt wx wq wr hu u hp p = 0
  · have hP : conP L cl K id hw wt wx wq wr hu u hp p = fin (gat (cparts cl K id hw wt wx wq wr hu u hp p)) := by unfold conP; rw [if_neg (by simpa using h)]
    rw [hP]
    clear hP
    obtain ⟨rfl, k0, k1, q0, q1, d, e, f, g⟩ := conE_zero h
    obtain ⟨n, rfl⟩ := Int.eq_ofNat_of_zero_le k0
    obtain ⟨q, rfl⟩ := Int.eq_ofNat_of_zero_le q0
    have hn : n ≤ 65535 := by omega
    have hq : q < 3 := by omega
    unfold cparts
    rw [Int.toNat_natCast, Int.toNat_natCast]
    cases hw
    · obtain ⟨rfl, rfl, z, rfl⟩ := e rfl
      obtain rfl : q = 0 := by omega
      cases hu
      · obtain rfl := f rfl
        have : hp = false := by cases hp with | false => rfl | true => exact absurd (d rfl) (by decide)
        subst this
        obtain rfl := g rfl
        exact cput_fff cl n id w hn h
      · cases hp
        · obtain rfl := g rfl
          exact cput_ftf cl n id u w hn h
        · exact cput_ftt cl n id u p w hn h
    · cases hu
      · obtain rfl := f rfl
        have : hp = false := by cases hp with | false => rfl | true => exact absurd (d rfl) (by decide)
        subst this
        obtain rfl := g rfl
        exact cput_tff cl n id wt wx q wr w hn hq h
      · cases hp
        · obtain rfl := g rfl
          exact cput_ttf cl n id wt wx q wr u w hn hq h
        · exact cput_ttt cl n id wt wx q wr u p w hn hq h
  · have hP : conP L cl K id hw wt wx wq wr hu u hp p = ([], conE L K hw wt wx wq wr hu u hp p) := by unfold conP; rw [if_pos h]
    rw [hP]
    exact cput_err L cl K id hw wt wx wq wr hu u hp p w _ (fun W => wrongs55 L cl K id hw wt wx wq wr hu u hp p W) h
theorem conP_a : conP 4 true 10 ⟨#[97]⟩ false ⟨#[]⟩ ⟨#[]⟩ 0 false false ⟨#[]⟩ false ⟨#[]⟩ = ([0, 4, 77, 81, 84, 84, 4, 2, 0, 10, 0, 1, 97], 0) := by decide +kernel
end Go.Proofs.YtmpklaokgogigaaDoor

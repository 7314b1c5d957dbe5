/-
  LAYER 13: what stands behind Keep, in the document's way.
-/
import Derived.Test.YtmpklaokgogigaaDoorKd
import Derived.Deep.MidRow
namespace Go.Proofs.YtmpklaokgogigaaDoor.Con
set_option linter.unusedVariables false
set_option linter.unusedSimpArgs false
open Go.Proofs.YtmpklaokgogigaaDoor
open Go.RowKit
/-- What rest answers. -/
def RestIs (w : World) (R : Con × Int) (e : Ending) (w' : World) : Prop := e = .returned (.tuple #[.agg R.1.v, .int .i64 R.2]) ∧ Below w.heap.size w w'
/-- Where rest stands: who comes so far, what will be answered. -/
structure RS (w : World) (br bc : Nat) (v : Value) (l : List Nat) (X : Con) (W : World) : Prop where
  c : Blk W bc 29 X.v
  r : Blk W br 29 con0.v
  b : BytesAt W v l
  bw : Below w.heap.size w W
  lo : w.heap.size ≤ br ∧ w.heap.size ≤ bc ∧ br ≠ bc
  src : BytesAt w v l
section
variable {w W W' : World} {br bc : Nat} {v : Value} {l : List Nat} {X : Con}
theorem below_setRow {B g : Nat} (h : Below B w W) (hg : B ≤ g) (cs : Array Value) : Below B w (W.setRow g cs) :=
  ⟨h.os, h.tape, h.output, by have := h.size; simpa [World.setRow] using this, fun k hk => (setRow_other W g k cs (by omega)).trans (h.block k hk)⟩
theorem RS.ext (h : RS w br bc v l X W) (hb : Below W.heap.size W W') : RS w br bc v l X W' :=
  ⟨h.c.ext hb, h.r.ext hb, h.b.keep hb (Nat.le_refl _), h.bw.trans (hb.mono h.bw.size), h.lo, h.src⟩
theorem RS.set (h : RS w br bc v l X W) (i : Nat) (u : Value) {X' : Con} (hX : X.v.setIfInBounds i u = X'.v) : RS w br bc v l X' (W.setCell ⟨bc, i, none⟩ u) := by
  have B : Below w.heap.size w (W.setCell ⟨bc, i, none⟩ u) := h.bw.setCell h.lo.2.1 u
  exact ⟨by rw [← hX]; exact h.c.set i u, h.r.far (p := ⟨bc, i, none⟩) h.lo.2.2 u, h.src.keep B (Nat.le_refl _), B, h.lo, h.src⟩
theorem RS.there4 (h : RS w br bc v l X W) : W.there bc 5 4 := fun j hj => by
  refine ⟨?_, h.c.fz _⟩
  rw [h.c.cell]
  match j, hj with
  | 0, _ => rfl
  | 1, _ => rfl
  | 2, _ => rfl
  | 3, _ => rfl
theorem RS.set4 (h : RS w br bc v l X W) (tp tx : ByteArray) (q : Int) (r : Bool) {X' : Con} (hX : (((X.v.setIfInBounds 5 (.string tp)).setIfInBounds 6 (.string tx)).setIfInBounds 7 (.int .i64 q)).setIfInBounds 8 (.bool r) = X'.v) :
    RS w br bc v l X' (W.setCells bc 5 [.string tp, .string tx, .int .i64 q, .bool r]) := by
  have B4 : Below w.heap.size w (W.setCells bc 5 [.string tp, .string tx, .int .i64 q, .bool r]) := (((h.bw.setCell (by exact h.lo.2.1) (.string tp)).setCell (by exact h.lo.2.1) (.string tx)).setCell (by exact h.lo.2.1) (.int .i64 q)).setCell (by exact h.lo.2.1) (.bool r)
  refine ⟨?_, ?_, h.src.keep B4 (Nat.le_refl _), B4, h.lo, h.src⟩
  · rw [← hX]
    exact (((h.c.set 5 _).set 6 _).set 7 _).set 8 _
  · exact (((h.r.far (p := ⟨bc, 5, none⟩) h.lo.2.2 _).far (p := ⟨bc, 6, none⟩) h.lo.2.2 _).far (p := ⟨bc, 7, none⟩) h.lo.2.2 _).far (p := ⟨bc, 8, none⟩) h.lo.2.2 _
theorem RS.put (h : RS w br bc v l X W) : Blk (W.setRow br X.v) br 29 X.v ∧ Below w.heap.size w (W.setRow br X.v) :=
  ⟨setRow_heap W br con0.v X.v 29 (0, 0) h.r, below_setRow h.bw h.lo.1 _⟩
theorem RS.same (h : RS w br bc v l X W) : W.setRow br con0.v = W := setRow_self W br con0.v 29 (0, 0) h.r
theorem rest_end {tmps : Array Value} {Y : Con} {n : Int} {R : Con × Int} (hr : Blk W br 29 Y.v) (h10 : tmps.getD 10 undef = .pointer (some ⟨br, 0, none⟩)) (h11 : tmps.getD 11 undef = .int .i64 n) (hb : Below w.heap.size w W) (hR : R = (Y, n)) :
    bodyPost Tryd.prog Tryd.f71 (RestIs w R) .ret { tmps := tmps, defers := [] } W := by
  subst hR
  have r1 := run_loadVar_row (P := Tryd.prog) W br 29 29 Y.v (0, 0) _ hr Tryd.underlying29 rfl (by kernel_rfl)
  simp only [Array.getD_eq_getD_getElem?] at h10 h11
  exact ⟨rfl, _, by simp [results, Tryd.f71, h10, h11, asAddr, r1], rfl, hb⟩
end
theorem size49 {a b c d : Value} : (Tryd.prog.info? 27).map (·.size) = some (#[a, b, c, d] : Array Value).size := by kernel_rfl
theorem mid_one (tp tx : ByteArray) (q : Int) (r : Bool) : (#[.string tp, .string tx, .int .i64 q, .bool r] : Array Value).all (·.oneCell') = true := by simp [Value.oneCell']
theorem rraw_any (v : Value) (l : List Nat) (at' : Int) (w : World) (hb : BytesAt w v l) (h256 : ∀ x ∈ l, x < 256) (hl : l.length ≤ 140737488355328) (b : -9223372036854775808 ≤ at' ∧ at' ≤ 9223372036854775807) :
    Calls Tryd.prog 92 #[v, .int .i64 at'] w (GetPost (rawV l at') w) :=
  (rgetraw_any v l at' w hb h256 hl b).mono (by rintro e w' ⟨rfl, n, rfl⟩; exact ⟨rfl, below_drewN (Below.refl _ _) n⟩)
theorem con_oneX (X : Con) : X.v.all (·.oneCell') = true := by simp [Con.v, Value.oneCell']
theorem con_sizeX (X : Con) : (Tryd.prog.info? 29).map (·.size) = some X.v.size := con_size
theorem RS.start {X : Con} (w : World) (v : Value) (l : List Nat) (hb : BytesAt w v l) (a : Obj) : RS w (w.heap.size + 1) (w.heap.size + 1 + 1) v l X (((w.alloc a).alloc (.cells con0.v 29)).alloc (.cells X.v 29)) := by
  have B := (ext_alloc w a).alloc (by simp) (.cells con0.v 29)
  have B3 : Below w.heap.size w (((w.alloc a).alloc (.cells con0.v 29)).alloc (.cells X.v 29)) := B.alloc (by simp; omega) _
  have kr : Blk ((w.alloc a).alloc (.cells con0.v 29)) (w.heap.size + 1) 29 con0.v := by
    have := Blk.new (w.alloc a) 29 con0.v
    simpa using this
  have kc : Blk (((w.alloc a).alloc (.cells con0.v 29)).alloc (.cells X.v 29)) (w.heap.size + 1 + 1) 29 X.v := by
    have := Blk.new ((w.alloc a).alloc (.cells con0.v 29)) 29 X.v
    simpa using this
  exact ⟨kc, kr.alloc _, hb.keep B3 (Nat.le_refl _), B3, ⟨by omega, by omega, by omega⟩, hb⟩
set_option maxHeartbeats 64000000 in
set_option maxRecDepth 100000 in
theorem rest_any (lev : Int) (clean : Bool) (keep : Int) (client : ByteArray) (hasW : Bool) (topic text : ByteArray) (qos : Int) (ret hasU : Bool) (user : ByteArray) (hasP : Bool) (pass : ByteArray) (w : World) (v : Value) (l : List Nat) (at' q : Int) (r : Bool) (hb : BytesAt w v l) (h256 : ∀ x ∈ l, x < 256) (hl : l.length ≤ 140737488355328) (ha : 0 ≤ at' ∧ at' ≤ l.length) :
    Calls Tryd.prog 71 #[.agg #[.int .i64 lev, .bool clean, .int .i64 keep, .string client, .bool hasW, .string topic, .string text, .int .i64 qos, .bool ret, .bool hasU, .string user, .bool hasP, .string pass], v, .int .i64 at', .int .i64 q, .bool r] w (RestIs w (restV l ⟨lev, clean, keep, client, hasW, topic, text, qos, ret, hasU, user, hasP, pass⟩ at' q r)) := by
  obtain ⟨a, cap, rfl, -⟩ := id hb
  have p := RS.start (X := ⟨lev, clean, keep, client, hasW, topic, text, qos, ret, hasU, user, hasP, pass⟩) w (.slice a l.length cap) l hb (.cells #[.int .i64 lev, .bool clean, .int .i64 keep, .string client, .bool hasW, .string topic, .string text, .int .i64 qos, .bool ret, .bool hasU, .string user, .bool hasP, .string pass] 29)
  obtain ⟨R, hR⟩ : ∃ R, R = restV l ⟨lev, clean, keep, client, hasW, topic, text, qos, ret, hasU, user, hasP, pass⟩ at' q r := ⟨_, rfl⟩
  rw [← hR]
  replace hR := Lib.hid hR
  replace h256 := Lib.hid h256
  have A0 := Lib.hid ha
  clear hb ha
  obtain ⟨⟨cl, A1, E1⟩, h1⟩ : ∃ r, r = getV l at' := ⟨_, rfl⟩
  have T := rget_any _ l at' _ p.b h256.out hl (by have := A0.out; omega)
  have AA := Lib.hid (get_in l at')
  rw [← h1] at T AA
  unfold GetPost at T
  simp only at T
  replace T := Lib.hid T
  replace h1 := Lib.hid h1
  have P := Lib.hid p
  clear p
  go_enter Tryd.func71, Tryd.ntmps71
  go_wp2_with fail
  refine T.out.mono ?_
  rintro e w1 ⟨rfl, b⟩
  have p := P.out.ext b
  clear T P b
  by_cases hE : E1 = 0
  rotate_left
  · have hF : R = (con0, E1) := by
      have hx := hR.out
      unfold restV at hx
      simp only [if_true, if_false, Bool.false_eq_true] at hx
      rw [← h1.out] at hx
      try simp only at hx
      exact hx.trans (if_pos hE)
    have P := Lib.hid p
    clear p
    replace hF := Lib.hid hF
    have hE' : (E1 != 0) = true := by simpa using hE
    go_wp2_with (refine wpList_store_row rfl 29 (.tmp 10) (.tmp 37) rfl (w.heap.size + 1) con0.v rfl rfl 29 con0.v P.out.r con_size rfl con_one ?_; rw [P.out.same])
    exact rest_end P.out.r rfl rfl P.out.bw hF.out
  subst hE
  have hR2 : R = willV l ⟨lev, clean, keep, cl, hasW, topic, text, qos, ret, hasU, user, hasP, pass⟩ A1 q r := by
    have hx := hR.out
    unfold restV at hx
    simp only [if_true, if_false, Bool.false_eq_true] at hx
    rw [← h1.out] at hx
    try simp only at hx
    exact hx.trans (if_neg (fun x => x rfl))
  replace hR2 := Lib.hid hR2
  clear hR
  have A1h := Lib.hid (AA.out rfl)
  clear AA h1
  have p0 := p
  clear p
  have xi3 : w1.cell? ⟨w.heap.size + 1 + 1, 3, none⟩ = some (.string client) := (p0.c.cell 3).trans rfl
  have zi3 := p0.c.fz 3
  have q3 := p0.set 3 (.string cl) (X' := ⟨lev, clean, keep, cl, hasW, topic, text, qos, ret, hasU, user, hasP, pass⟩) rfl
  have p := q3
  clear p0 q3
  have y4 : (w1.setCell ⟨w.heap.size + 1 + 1, 3, none⟩ (.string cl)).cell? ⟨w.heap.size + 1 + 1, 4, none⟩ = some (.bool hasW) := (p.c.cell 4).trans rfl
  have y9 : (w1.setCell ⟨w.heap.size + 1 + 1, 3, none⟩ (.string cl)).cell? ⟨w.heap.size + 1 + 1, 9, none⟩ = some (.bool hasU) := (p.c.cell 9).trans rfl
  cases hasW
  case false =>
    have hR7 : R = userV l ⟨lev, clean, keep, cl, false, topic, text, qos, ret, hasU, user, hasP, pass⟩ A1 := by
      have hx := hR2.out
      unfold willV at hx
      simp only [if_true, if_false, Bool.false_eq_true] at hx
      try simp only at hx
      exact hx
    replace hR7 := Lib.hid hR7
    clear hR2
    have y11 : (w1.setCell ⟨w.heap.size + 1 + 1, 3, none⟩ (.string cl)).cell? ⟨w.heap.size + 1 + 1, 11, none⟩ = some (.bool hasP) := (p.c.cell 11).trans rfl
    cases hasU
    case false =>
      have hR8 : R = passV l ⟨lev, clean, keep, cl, false, topic, text, qos, ret, false, user, hasP, pass⟩ A1 := by
        have hx := hR7.out
        unfold userV at hx
        simp only [if_true, if_false, Bool.false_eq_true] at hx
        try simp only at hx
        exact hx
      replace hR8 := Lib.hid hR8
      clear hR7
      cases hasP
      case false =>
        have hR9 : R = endV l ⟨lev, clean, keep, cl, false, topic, text, qos, ret, false, user, false, pass⟩ A1 := by
          have hx := hR8.out
          unfold passV at hx
          simp only [if_true, if_false, Bool.false_eq_true] at hx
          try simp only at hx
          exact hx
        replace hR9 := Lib.hid hR9
        clear hR8
        by_cases hE : A1 = (l.length : Int)
        · have hF : R = (⟨lev, clean, keep, cl, false, topic, text, qos, ret, false, user, false, pass⟩, 0) := by
            have hx := hR9.out
            unfold endV at hx
            exact hx.trans (if_neg (fun x => x hE))
          replace hF := Lib.hid hF
          have P := Lib.hid p
          clear p
          have U := Lib.hid P.out.put
          have hE' : (A1 != (l.length : Int)) = false := by simp [hE]
          go_wp2_with (first
            | (refine wpList_load_row rfl 29 (.tmp 12) rfl (w.heap.size + 1 + 1) rfl 29 (Con.v ⟨lev, clean, keep, cl, false, topic, text, qos, ret, false, user, false, pass⟩) (0, 0) _ ?_ Tryd.underlying29 rfl (con_sizeX _) ?_; exact P.out.c)
            | (refine wpList_store_row rfl 29 (.tmp 10) (.tmp 109) rfl (w.heap.size + 1) (Con.v ⟨lev, clean, keep, cl, false, topic, text, qos, ret, false, user, false, pass⟩) rfl rfl 29 con0.v ?_ (con_sizeX _) rfl (con_oneX _) ?_; exact P.out.r))
          exact rest_end U.out.1 rfl rfl U.out.2 hF.out
        · have hF : R = (con0, 4) := by
            have hx := hR9.out
            unfold endV at hx
            exact hx.trans (if_pos hE)
          replace hF := Lib.hid hF
          have P := Lib.hid p
          clear p
          have hE' : (A1 != (l.length : Int)) = true := by simpa using hE
          go_wp2_with (first
            | (refine wpList_store_row rfl 29 (.tmp 10) (.tmp 108) rfl (w.heap.size + 1) con0.v rfl rfl 29 con0.v ?_ con_size rfl con_one ?_; exact P.out.r; rw [P.out.same]))
          exact rest_end P.out.r rfl rfl P.out.bw hF.out
      case true =>
        obtain ⟨⟨pw, A5, E5⟩, h5⟩ : ∃ r, r = rawV l A1 := ⟨_, rfl⟩
        have T := rraw_any _ l A1 _ p.b h256.out hl (by have := A1h.out; omega)
        have AA := Lib.hid (raw_in l A1)
        rw [← h5] at T AA
        unfold GetPost at T
        simp only at T
        replace T := Lib.hid T
        replace h5 := Lib.hid h5
        have P := Lib.hid p
        clear p
        go_wp2_with fail
        refine T.out.mono ?_
        rintro e w5 ⟨rfl, b⟩
        have p := P.out.ext b
        clear T P b
        by_cases hE : E5 = 0
        rotate_left
        · have hF : R = (con0, E5) := by
            have hx := hR8.out
            unfold passV at hx
            simp only [if_true, if_false, Bool.false_eq_true] at hx
            rw [← h5.out] at hx
            try simp only at hx
            exact hx.trans (if_pos hE)
          have P := Lib.hid p
          clear p
          replace hF := Lib.hid hF
          have hE' : (E5 != 0) = true := by simpa using hE
          go_wp2_with (refine wpList_store_row rfl 29 (.tmp 10) (.tmp 99) rfl (w.heap.size + 1) con0.v rfl rfl 29 con0.v P.out.r con_size rfl con_one ?_; rw [P.out.same])
          exact rest_end P.out.r rfl rfl P.out.bw hF.out
        subst hE
        have hR9 : R = endV l ⟨lev, clean, keep, cl, false, topic, text, qos, ret, false, user, true, pw⟩ A5 := by
          have hx := hR8.out
          unfold passV at hx
          simp only [if_true, if_false, Bool.false_eq_true] at hx
          rw [← h5.out] at hx
          try simp only at hx
          exact hx.trans (if_neg (fun x => x rfl))
        replace hR9 := Lib.hid hR9
        clear hR8
        have A5h := Lib.hid (AA.out rfl)
        clear AA h5
        have p0 := p
        clear p
        have xi12 : w5.cell? ⟨w.heap.size + 1 + 1, 12, none⟩ = some (.string pass) := (p0.c.cell 12).trans rfl
        have zi12 := p0.c.fz 12
        have q12 := p0.set 12 (.string pw) (X' := ⟨lev, clean, keep, cl, false, topic, text, qos, ret, false, user, true, pw⟩) rfl
        have p := q12
        clear p0 q12
        by_cases hE : A5 = (l.length : Int)
        · have hF : R = (⟨lev, clean, keep, cl, false, topic, text, qos, ret, false, user, true, pw⟩, 0) := by
            have hx := hR9.out
            unfold endV at hx
            exact hx.trans (if_neg (fun x => x hE))
          replace hF := Lib.hid hF
          have P := Lib.hid p
          clear p
          have U := Lib.hid P.out.put
          have hE' : (A5 != (l.length : Int)) = false := by simp [hE]
          go_wp2_with (first
            | (refine wpList_load_row rfl 29 (.tmp 12) rfl (w.heap.size + 1 + 1) rfl 29 (Con.v ⟨lev, clean, keep, cl, false, topic, text, qos, ret, false, user, true, pw⟩) (0, 0) _ ?_ Tryd.underlying29 rfl (con_sizeX _) ?_; exact P.out.c)
            | (refine wpList_store_row rfl 29 (.tmp 10) (.tmp 109) rfl (w.heap.size + 1) (Con.v ⟨lev, clean, keep, cl, false, topic, text, qos, ret, false, user, true, pw⟩) rfl rfl 29 con0.v ?_ (con_sizeX _) rfl (con_oneX _) ?_; exact P.out.r))
          exact rest_end U.out.1 rfl rfl U.out.2 hF.out
        · have hF : R = (con0, 4) := by
            have hx := hR9.out
            unfold endV at hx
            exact hx.trans (if_pos hE)
          replace hF := Lib.hid hF
          have P := Lib.hid p
          clear p
          have hE' : (A5 != (l.length : Int)) = true := by simpa using hE
          go_wp2_with (first
            | (refine wpList_store_row rfl 29 (.tmp 10) (.tmp 108) rfl (w.heap.size + 1) con0.v rfl rfl 29 con0.v ?_ con_size rfl con_one ?_; exact P.out.r; rw [P.out.same]))
          exact rest_end P.out.r rfl rfl P.out.bw hF.out
    case true =>
      clear y11
      obtain ⟨⟨us, A4, E4⟩, h4⟩ : ∃ r, r = getV l A1 := ⟨_, rfl⟩
      have T := rget_any _ l A1 _ p.b h256.out hl (by have := A1h.out; omega)
      have AA := Lib.hid (get_in l A1)
      rw [← h4] at T AA
      unfold GetPost at T
      simp only at T
      replace T := Lib.hid T
      replace h4 := Lib.hid h4
      have P := Lib.hid p
      clear p
      go_wp2_with fail
      refine T.out.mono ?_
      rintro e w4 ⟨rfl, b⟩
      have p := P.out.ext b
      clear T P b
      by_cases hE : E4 = 0
      rotate_left
      · have hF : R = (con0, E4) := by
          have hx := hR7.out
          unfold userV at hx
          simp only [if_true, if_false, Bool.false_eq_true] at hx
          rw [← h4.out] at hx
          try simp only at hx
          exact hx.trans (if_pos hE)
        have P := Lib.hid p
        clear p
        replace hF := Lib.hid hF
        have hE' : (E4 != 0) = true := by simpa using hE
        go_wp2_with (refine wpList_store_row rfl 29 (.tmp 10) (.tmp 83) rfl (w.heap.size + 1) con0.v rfl rfl 29 con0.v P.out.r con_size rfl con_one ?_; rw [P.out.same])
        exact rest_end P.out.r rfl rfl P.out.bw hF.out
      subst hE
      have hR8 : R = passV l ⟨lev, clean, keep, cl, false, topic, text, qos, ret, true, us, hasP, pass⟩ A4 := by
        have hx := hR7.out
        unfold userV at hx
        simp only [if_true, if_false, Bool.false_eq_true] at hx
        rw [← h4.out] at hx
        try simp only at hx
        exact hx.trans (if_neg (fun x => x rfl))
      replace hR8 := Lib.hid hR8
      clear hR7
      have A4h := Lib.hid (AA.out rfl)
      clear AA h4
      have p0 := p
      clear p
      have xi10 : w4.cell? ⟨w.heap.size + 1 + 1, 10, none⟩ = some (.string user) := (p0.c.cell 10).trans rfl
      have zi10 := p0.c.fz 10
      have q10 := p0.set 10 (.string us) (X' := ⟨lev, clean, keep, cl, false, topic, text, qos, ret, true, us, hasP, pass⟩) rfl
      have p := q10
      clear p0 q10
      have y11 : (w4.setCell ⟨w.heap.size + 1 + 1, 10, none⟩ (.string us)).cell? ⟨w.heap.size + 1 + 1, 11, none⟩ = some (.bool hasP) := (p.c.cell 11).trans rfl
      cases hasP
      case false =>
        have hR9 : R = endV l ⟨lev, clean, keep, cl, false, topic, text, qos, ret, true, us, false, pass⟩ A4 := by
          have hx := hR8.out
          unfold passV at hx
          simp only [if_true, if_false, Bool.false_eq_true] at hx
          try simp only at hx
          exact hx
        replace hR9 := Lib.hid hR9
        clear hR8
        by_cases hE : A4 = (l.length : Int)
        · have hF : R = (⟨lev, clean, keep, cl, false, topic, text, qos, ret, true, us, false, pass⟩, 0) := by
            have hx := hR9.out
            unfold endV at hx
            exact hx.trans (if_neg (fun x => x hE))
          replace hF := Lib.hid hF
          have P := Lib.hid p
          clear p
          have U := Lib.hid P.out.put
          have hE' : (A4 != (l.length : Int)) = false := by simp [hE]
          go_wp2_with (first
            | (refine wpList_load_row rfl 29 (.tmp 12) rfl (w.heap.size + 1 + 1) rfl 29 (Con.v ⟨lev, clean, keep, cl, false, topic, text, qos, ret, true, us, false, pass⟩) (0, 0) _ ?_ Tryd.underlying29 rfl (con_sizeX _) ?_; exact P.out.c)
            | (refine wpList_store_row rfl 29 (.tmp 10) (.tmp 109) rfl (w.heap.size + 1) (Con.v ⟨lev, clean, keep, cl, false, topic, text, qos, ret, true, us, false, pass⟩) rfl rfl 29 con0.v ?_ (con_sizeX _) rfl (con_oneX _) ?_; exact P.out.r))
          exact rest_end U.out.1 rfl rfl U.out.2 hF.out
        · have hF : R = (con0, 4) := by
            have hx := hR9.out
            unfold endV at hx
            exact hx.trans (if_pos hE)
          replace hF := Lib.hid hF
          have P := Lib.hid p
          clear p
          have hE' : (A4 != (l.length : Int)) = true := by simpa using hE
          go_wp2_with (first
            | (refine wpList_store_row rfl 29 (.tmp 10) (.tmp 108) rfl (w.heap.size + 1) con0.v rfl rfl 29 con0.v ?_ con_size rfl con_one ?_; exact P.out.r; rw [P.out.same]))
          exact rest_end P.out.r rfl rfl P.out.bw hF.out
      case true =>
        obtain ⟨⟨pw, A5, E5⟩, h5⟩ : ∃ r, r = rawV l A4 := ⟨_, rfl⟩
        have T := rraw_any _ l A4 _ p.b h256.out hl (by have := A4h.out; omega)
        have AA := Lib.hid (raw_in l A4)
        rw [← h5] at T AA
        unfold GetPost at T
        simp only at T
        replace T := Lib.hid T
        replace h5 := Lib.hid h5
        have P := Lib.hid p
        clear p
        go_wp2_with fail
        refine T.out.mono ?_
        rintro e w5 ⟨rfl, b⟩
        have p := P.out.ext b
        clear T P b
        by_cases hE : E5 = 0
        rotate_left
        · have hF : R = (con0, E5) := by
            have hx := hR8.out
            unfold passV at hx
            simp only [if_true, if_false, Bool.false_eq_true] at hx
            rw [← h5.out] at hx
            try simp only at hx
            exact hx.trans (if_pos hE)
          have P := Lib.hid p
          clear p
          replace hF := Lib.hid hF
          have hE' : (E5 != 0) = true := by simpa using hE
          go_wp2_with (refine wpList_store_row rfl 29 (.tmp 10) (.tmp 99) rfl (w.heap.size + 1) con0.v rfl rfl 29 con0.v P.out.r con_size rfl con_one ?_; rw [P.out.same])
          exact rest_end P.out.r rfl rfl P.out.bw hF.out
        subst hE
        have hR9 : R = endV l ⟨lev, clean, keep, cl, false, topic, text, qos, ret, true, us, true, pw⟩ A5 := by
          have hx := hR8.out
          unfold passV at hx
          simp only [if_true, if_false, Bool.false_eq_true] at hx
          rw [← h5.out] at hx
          try simp only at hx
          exact hx.trans (if_neg (fun x => x rfl))
        replace hR9 := Lib.hid hR9
        clear hR8
        have A5h := Lib.hid (AA.out rfl)
        clear AA h5
        have p0 := p
        clear p
        have xi12 : w5.cell? ⟨w.heap.size + 1 + 1, 12, none⟩ = some (.string pass) := (p0.c.cell 12).trans rfl
        have zi12 := p0.c.fz 12
        have q12 := p0.set 12 (.string pw) (X' := ⟨lev, clean, keep, cl, false, topic, text, qos, ret, true, us, true, pw⟩) rfl
        have p := q12
        clear p0 q12
        by_cases hE : A5 = (l.length : Int)
        · have hF : R = (⟨lev, clean, keep, cl, false, topic, text, qos, ret, true, us, true, pw⟩, 0) := by
            have hx := hR9.out
            unfold endV at hx
            exact hx.trans (if_neg (fun x => x hE))
          replace hF := Lib.hid hF
          have P := Lib.hid p
          clear p
          have U := Lib.hid P.out.put
          have hE' : (A5 != (l.length : Int)) = false := by simp [hE]
          go_wp2_with (first
            | (refine wpList_load_row rfl 29 (.tmp 12) rfl (w.heap.size + 1 + 1) rfl 29 (Con.v ⟨lev, clean, keep, cl, false, topic, text, qos, ret, true, us, true, pw⟩) (0, 0) _ ?_ Tryd.underlying29 rfl (con_sizeX _) ?_; exact P.out.c)
            | (refine wpList_store_row rfl 29 (.tmp 10) (.tmp 109) rfl (w.heap.size + 1) (Con.v ⟨lev, clean, keep, cl, false, topic, text, qos, ret, true, us, true, pw⟩) rfl rfl 29 con0.v ?_ (con_sizeX _) rfl (con_oneX _) ?_; exact P.out.r))
          exact rest_end U.out.1 rfl rfl U.out.2 hF.out
        · have hF : R = (con0, 4) := by
            have hx := hR9.out
            unfold endV at hx
            exact hx.trans (if_pos hE)
          replace hF := Lib.hid hF
          have P := Lib.hid p
          clear p
          have hE' : (A5 != (l.length : Int)) = true := by simpa using hE
          go_wp2_with (first
            | (refine wpList_store_row rfl 29 (.tmp 10) (.tmp 108) rfl (w.heap.size + 1) con0.v rfl rfl 29 con0.v ?_ con_size rfl con_one ?_; exact P.out.r; rw [P.out.same]))
          exact rest_end P.out.r rfl rfl P.out.bw hF.out
  case true =>
    obtain ⟨⟨tp, A2, E2⟩, h2⟩ : ∃ r, r = getV l A1 := ⟨_, rfl⟩
    have T := rget_any _ l A1 _ p.b h256.out hl (by have := A1h.out; omega)
    have AA := Lib.hid (get_in l A1)
    rw [← h2] at T AA
    unfold GetPost at T
    simp only at T
    replace T := Lib.hid T
    replace h2 := Lib.hid h2
    have P := Lib.hid p
    clear p
    go_wp2_with fail
    refine T.out.mono ?_
    rintro e w2 ⟨rfl, b⟩
    have p := P.out.ext b
    clear T P b
    by_cases hE : E2 = 0
    rotate_left
    · have hF : R = (con0, E2) := by
        have hx := hR2.out
        unfold willV at hx
        simp only [if_true, if_false, Bool.false_eq_true] at hx
        rw [← h2.out] at hx
        try simp only at hx
        exact hx.trans (if_pos hE)
      have P := Lib.hid p
      clear p
      replace hF := Lib.hid hF
      have hE' : (E2 != 0) = true := by simpa using hE
      go_wp2_with (refine wpList_store_row rfl 29 (.tmp 10) (.tmp 52) rfl (w.heap.size + 1) con0.v rfl rfl 29 con0.v P.out.r con_size rfl con_one ?_; rw [P.out.same])
      exact rest_end P.out.r rfl rfl P.out.bw hF.out
    subst hE
    have A2h := Lib.hid (AA.out rfl)
    clear AA y9 y4 xi3 zi3
    have hR3 : R = if (rawV l A2).2.2 ≠ 0 then (con0, (rawV l A2).2.2) else userV l ⟨lev, clean, keep, cl, true, tp, (rawV l A2).1, q, r, hasU, user, hasP, pass⟩ (rawV l A2).2.1 := by
      have hx := hR2.out
      unfold willV at hx
      simp only [if_true, if_false, Bool.false_eq_true] at hx
      rw [← h2.out] at hx
      try simp only at hx
      exact hx.trans (if_neg (fun x => x rfl))
    replace hR3 := Lib.hid hR3
    clear hR2
    obtain ⟨⟨tx, A3, E3⟩, h3⟩ : ∃ r, r = rawV l A2 := ⟨_, rfl⟩
    have T := rraw_any _ l A2 _ p.b h256.out hl (by have := A2h.out; omega)
    have AA := Lib.hid (raw_in l A2)
    rw [← h3] at T AA
    unfold GetPost at T
    simp only at T
    replace T := Lib.hid T
    replace h3 := Lib.hid h3
    have P := Lib.hid p
    clear p
    go_wp2_with fail
    refine T.out.mono ?_
    rintro e w3 ⟨rfl, b⟩
    have p := P.out.ext b
    clear T P b
    by_cases hE : E3 = 0
    rotate_left
    · have hF : R = (con0, E3) := by
        have hx := hR3.out
        rw [← h3.out] at hx
        simp only at hx
        exact hx.trans (if_pos hE)
      have P := Lib.hid p
      clear p
      replace hF := Lib.hid hF
      have hE' : (E3 != 0) = true := by simpa using hE
      go_wp2_with (refine wpList_store_row rfl 29 (.tmp 10) (.tmp 63) rfl (w.heap.size + 1) con0.v rfl rfl 29 con0.v P.out.r con_size rfl con_one ?_; rw [P.out.same])
      exact rest_end P.out.r rfl rfl P.out.bw hF.out
    subst hE
    have hR7 : R = userV l ⟨lev, clean, keep, cl, true, tp, tx, q, r, hasU, user, hasP, pass⟩ A3 := by
      have hx := hR3.out
      rw [← h3.out] at hx
      simp only at hx
      exact hx.trans (if_neg (fun x => x rfl))
    replace hR7 := Lib.hid hR7
    have A3h := Lib.hid (AA.out rfl)
    clear AA hR3 h3
    have TH := Lib.hid p.there4
    have p4 := p.set4 tp tx q r (X' := ⟨lev, clean, keep, cl, true, tp, tx, q, r, hasU, user, hasP, pass⟩) rfl
    clear p
    have p := p4
    clear p4
    have y9 : (w3.setCells (w.heap.size + 1 + 1) 5 [.string tp, .string tx, .int .i64 q, .bool r]).cell? ⟨w.heap.size + 1 + 1, 9, none⟩ = some (.bool hasU) := (p.c.cell 9).trans rfl
    have y11 : (w3.setCells (w.heap.size + 1 + 1) 5 [.string tp, .string tx, .int .i64 q, .bool r]).cell? ⟨w.heap.size + 1 + 1, 11, none⟩ = some (.bool hasP) := (p.c.cell 11).trans rfl
    cases hasU
    case false =>
      have hR8 : R = passV l ⟨lev, clean, keep, cl, true, tp, tx, q, r, false, user, hasP, pass⟩ A3 := by
        have hx := hR7.out
        unfold userV at hx
        simp only [if_true, if_false, Bool.false_eq_true] at hx
        try simp only at hx
        exact hx
      replace hR8 := Lib.hid hR8
      clear hR7
      cases hasP
      case false =>
        have hR9 : R = endV l ⟨lev, clean, keep, cl, true, tp, tx, q, r, false, user, false, pass⟩ A3 := by
          have hx := hR8.out
          unfold passV at hx
          simp only [if_true, if_false, Bool.false_eq_true] at hx
          try simp only at hx
          exact hx
        replace hR9 := Lib.hid hR9
        clear hR8
        by_cases hE : A3 = (l.length : Int)
        · have hF : R = (⟨lev, clean, keep, cl, true, tp, tx, q, r, false, user, false, pass⟩, 0) := by
            have hx := hR9.out
            unfold endV at hx
            exact hx.trans (if_neg (fun x => x hE))
          replace hF := Lib.hid hF
          have P := Lib.hid p
          clear p
          have U := Lib.hid P.out.put
          have hE' : (A3 != (l.length : Int)) = false := by simp [hE]
          go_wp2_with (first
            | (refine wpList_store_mid rfl 27 (.tmp 71) (.tmp 70) rfl (w.heap.size + 1 + 1) 5 #[.string tp, .string tx, .int .i64 q, .bool r] rfl rfl TH.out size49 (mid_one _ _ _ _) ?_; change wpList _ _ _ _ _ (w3.setCells (w.heap.size + 1 + 1) 5 [.string tp, .string tx, .int .i64 q, .bool r]); generalize (w3.setCells (w.heap.size + 1 + 1) 5 [.string tp, .string tx, .int .i64 q, .bool r]) = W4 at *)
            | (refine wpList_load_row rfl 29 (.tmp 12) rfl (w.heap.size + 1 + 1) rfl 29 (Con.v ⟨lev, clean, keep, cl, true, tp, tx, q, r, false, user, false, pass⟩) (0, 0) _ ?_ Tryd.underlying29 rfl (con_sizeX _) ?_; exact P.out.c)
            | (refine wpList_store_row rfl 29 (.tmp 10) (.tmp 109) rfl (w.heap.size + 1) (Con.v ⟨lev, clean, keep, cl, true, tp, tx, q, r, false, user, false, pass⟩) rfl rfl 29 con0.v ?_ (con_sizeX _) rfl (con_oneX _) ?_; exact P.out.r))
          exact rest_end U.out.1 rfl rfl U.out.2 hF.out
        · have hF : R = (con0, 4) := by
            have hx := hR9.out
            unfold endV at hx
            exact hx.trans (if_pos hE)
          replace hF := Lib.hid hF
          have P := Lib.hid p
          clear p
          have hE' : (A3 != (l.length : Int)) = true := by simpa using hE
          go_wp2_with (first
            | (refine wpList_store_mid rfl 27 (.tmp 71) (.tmp 70) rfl (w.heap.size + 1 + 1) 5 #[.string tp, .string tx, .int .i64 q, .bool r] rfl rfl TH.out size49 (mid_one _ _ _ _) ?_; change wpList _ _ _ _ _ (w3.setCells (w.heap.size + 1 + 1) 5 [.string tp, .string tx, .int .i64 q, .bool r]); generalize (w3.setCells (w.heap.size + 1 + 1) 5 [.string tp, .string tx, .int .i64 q, .bool r]) = W4 at *)
            | (refine wpList_store_row rfl 29 (.tmp 10) (.tmp 108) rfl (w.heap.size + 1) con0.v rfl rfl 29 con0.v ?_ con_size rfl con_one ?_; exact P.out.r; rw [P.out.same]))
          exact rest_end P.out.r rfl rfl P.out.bw hF.out
      case true =>
        obtain ⟨⟨pw, A5, E5⟩, h5⟩ : ∃ r, r = rawV l A3 := ⟨_, rfl⟩
        have T := rraw_any _ l A3 _ p.b h256.out hl (by have := A3h.out; omega)
        have AA := Lib.hid (raw_in l A3)
        rw [← h5] at T AA
        unfold GetPost at T
        simp only at T
        replace T := Lib.hid T
        replace h5 := Lib.hid h5
        have P := Lib.hid p
        clear p
        go_wp2_with (refine wpList_store_mid rfl 27 (.tmp 71) (.tmp 70) rfl (w.heap.size + 1 + 1) 5 #[.string tp, .string tx, .int .i64 q, .bool r] rfl rfl TH.out size49 (mid_one _ _ _ _) ?_; change wpList _ _ _ _ _ (w3.setCells (w.heap.size + 1 + 1) 5 [.string tp, .string tx, .int .i64 q, .bool r]); generalize (w3.setCells (w.heap.size + 1 + 1) 5 [.string tp, .string tx, .int .i64 q, .bool r]) = W4 at *)
        refine T.out.mono ?_
        rintro e w5 ⟨rfl, b⟩
        have p := P.out.ext b
        clear T P b
        by_cases hE : E5 = 0
        rotate_left
        · have hF : R = (con0, E5) := by
            have hx := hR8.out
            unfold passV at hx
            simp only [if_true, if_false, Bool.false_eq_true] at hx
            rw [← h5.out] at hx
            try simp only at hx
            exact hx.trans (if_pos hE)
          have P := Lib.hid p
          clear p
          replace hF := Lib.hid hF
          have hE' : (E5 != 0) = true := by simpa using hE
          go_wp2_with (refine wpList_store_row rfl 29 (.tmp 10) (.tmp 99) rfl (w.heap.size + 1) con0.v rfl rfl 29 con0.v P.out.r con_size rfl con_one ?_; rw [P.out.same])
          exact rest_end P.out.r rfl rfl P.out.bw hF.out
        subst hE
        have hR9 : R = endV l ⟨lev, clean, keep, cl, true, tp, tx, q, r, false, user, true, pw⟩ A5 := by
          have hx := hR8.out
          unfold passV at hx
          simp only [if_true, if_false, Bool.false_eq_true] at hx
          rw [← h5.out] at hx
          try simp only at hx
          exact hx.trans (if_neg (fun x => x rfl))
        replace hR9 := Lib.hid hR9
        clear hR8
        have A5h := Lib.hid (AA.out rfl)
        clear AA h5
        have p0 := p
        clear p
        have xi12 : w5.cell? ⟨w.heap.size + 1 + 1, 12, none⟩ = some (.string pass) := (p0.c.cell 12).trans rfl
        have zi12 := p0.c.fz 12
        have q12 := p0.set 12 (.string pw) (X' := ⟨lev, clean, keep, cl, true, tp, tx, q, r, false, user, true, pw⟩) rfl
        have p := q12
        clear p0 q12
        by_cases hE : A5 = (l.length : Int)
        · have hF : R = (⟨lev, clean, keep, cl, true, tp, tx, q, r, false, user, true, pw⟩, 0) := by
            have hx := hR9.out
            unfold endV at hx
            exact hx.trans (if_neg (fun x => x hE))
          replace hF := Lib.hid hF
          have P := Lib.hid p
          clear p
          have U := Lib.hid P.out.put
          have hE' : (A5 != (l.length : Int)) = false := by simp [hE]
          go_wp2_with (first
            | (refine wpList_load_row rfl 29 (.tmp 12) rfl (w.heap.size + 1 + 1) rfl 29 (Con.v ⟨lev, clean, keep, cl, true, tp, tx, q, r, false, user, true, pw⟩) (0, 0) _ ?_ Tryd.underlying29 rfl (con_sizeX _) ?_; exact P.out.c)
            | (refine wpList_store_row rfl 29 (.tmp 10) (.tmp 109) rfl (w.heap.size + 1) (Con.v ⟨lev, clean, keep, cl, true, tp, tx, q, r, false, user, true, pw⟩) rfl rfl 29 con0.v ?_ (con_sizeX _) rfl (con_oneX _) ?_; exact P.out.r))
          exact rest_end U.out.1 rfl rfl U.out.2 hF.out
        · have hF : R = (con0, 4) := by
            have hx := hR9.out
            unfold endV at hx
            exact hx.trans (if_pos hE)
          replace hF := Lib.hid hF
          have P := Lib.hid p
          clear p
          have hE' : (A5 != (l.length : Int)) = true := by simpa using hE
          go_wp2_with (first
            | (refine wpList_store_row rfl 29 (.tmp 10) (.tmp 108) rfl (w.heap.size + 1) con0.v rfl rfl 29 con0.v ?_ con_size rfl con_one ?_; exact P.out.r; rw [P.out.same]))
          exact rest_end P.out.r rfl rfl P.out.bw hF.out
    case true =>
      clear y11
      obtain ⟨⟨us, A4, E4⟩, h4⟩ : ∃ r, r = getV l A3 := ⟨_, rfl⟩
      have T := rget_any _ l A3 _ p.b h256.out hl (by have := A3h.out; omega)
      have AA := Lib.hid (get_in l A3)
      rw [← h4] at T AA
      unfold GetPost at T
      simp only at T
      replace T := Lib.hid T
      replace h4 := Lib.hid h4
      have P := Lib.hid p
      clear p
      go_wp2_with (refine wpList_store_mid rfl 27 (.tmp 71) (.tmp 70) rfl (w.heap.size + 1 + 1) 5 #[.string tp, .string tx, .int .i64 q, .bool r] rfl rfl TH.out size49 (mid_one _ _ _ _) ?_; change wpList _ _ _ _ _ (w3.setCells (w.heap.size + 1 + 1) 5 [.string tp, .string tx, .int .i64 q, .bool r]); generalize (w3.setCells (w.heap.size + 1 + 1) 5 [.string tp, .string tx, .int .i64 q, .bool r]) = W4 at *)
      refine T.out.mono ?_
      rintro e w4 ⟨rfl, b⟩
      have p := P.out.ext b
      clear T P b
      by_cases hE : E4 = 0
      rotate_left
      · have hF : R = (con0, E4) := by
          have hx := hR7.out
          unfold userV at hx
          simp only [if_true, if_false, Bool.false_eq_true] at hx
          rw [← h4.out] at hx
          try simp only at hx
          exact hx.trans (if_pos hE)
        have P := Lib.hid p
        clear p
        replace hF := Lib.hid hF
        have hE' : (E4 != 0) = true := by simpa using hE
        go_wp2_with (refine wpList_store_row rfl 29 (.tmp 10) (.tmp 83) rfl (w.heap.size + 1) con0.v rfl rfl 29 con0.v P.out.r con_size rfl con_one ?_; rw [P.out.same])
        exact rest_end P.out.r rfl rfl P.out.bw hF.out
      subst hE
      have hR8 : R = passV l ⟨lev, clean, keep, cl, true, tp, tx, q, r, true, us, hasP, pass⟩ A4 := by
        have hx := hR7.out
        unfold userV at hx
        simp only [if_true, if_false, Bool.false_eq_true] at hx
        rw [← h4.out] at hx
        try simp only at hx
        exact hx.trans (if_neg (fun x => x rfl))
      replace hR8 := Lib.hid hR8
      clear hR7
      have A4h := Lib.hid (AA.out rfl)
      clear AA h4
      have p0 := p
      clear p
      have xi10 : w4.cell? ⟨w.heap.size + 1 + 1, 10, none⟩ = some (.string user) := (p0.c.cell 10).trans rfl
      have zi10 := p0.c.fz 10
      have q10 := p0.set 10 (.string us) (X' := ⟨lev, clean, keep, cl, true, tp, tx, q, r, true, us, hasP, pass⟩) rfl
      have p := q10
      clear p0 q10
      have y11 : (w4.setCell ⟨w.heap.size + 1 + 1, 10, none⟩ (.string us)).cell? ⟨w.heap.size + 1 + 1, 11, none⟩ = some (.bool hasP) := (p.c.cell 11).trans rfl
      cases hasP
      case false =>
        have hR9 : R = endV l ⟨lev, clean, keep, cl, true, tp, tx, q, r, true, us, false, pass⟩ A4 := by
          have hx := hR8.out
          unfold passV at hx
          simp only [if_true, if_false, Bool.false_eq_true] at hx
          try simp only at hx
          exact hx
        replace hR9 := Lib.hid hR9
        clear hR8
        by_cases hE : A4 = (l.length : Int)
        · have hF : R = (⟨lev, clean, keep, cl, true, tp, tx, q, r, true, us, false, pass⟩, 0) := by
            have hx := hR9.out
            unfold endV at hx
            exact hx.trans (if_neg (fun x => x hE))
          replace hF := Lib.hid hF
          have P := Lib.hid p
          clear p
          have U := Lib.hid P.out.put
          have hE' : (A4 != (l.length : Int)) = false := by simp [hE]
          go_wp2_with (first
            | (refine wpList_load_row rfl 29 (.tmp 12) rfl (w.heap.size + 1 + 1) rfl 29 (Con.v ⟨lev, clean, keep, cl, true, tp, tx, q, r, true, us, false, pass⟩) (0, 0) _ ?_ Tryd.underlying29 rfl (con_sizeX _) ?_; exact P.out.c)
            | (refine wpList_store_row rfl 29 (.tmp 10) (.tmp 109) rfl (w.heap.size + 1) (Con.v ⟨lev, clean, keep, cl, true, tp, tx, q, r, true, us, false, pass⟩) rfl rfl 29 con0.v ?_ (con_sizeX _) rfl (con_oneX _) ?_; exact P.out.r))
          exact rest_end U.out.1 rfl rfl U.out.2 hF.out
        · have hF : R = (con0, 4) := by
            have hx := hR9.out
            unfold endV at hx
            exact hx.trans (if_pos hE)
          replace hF := Lib.hid hF
          have P := Lib.hid p
          clear p
          have hE' : (A4 != (l.length : Int)) = true := by simpa using hE
          go_wp2_with (first
            | (refine wpList_store_row rfl 29 (.tmp 10) (.tmp 108) rfl (w.heap.size + 1) con0.v rfl rfl 29 con0.v ?_ con_size rfl con_one ?_; exact P.out.r; rw [P.out.same]))
          exact rest_end P.out.r rfl rfl P.out.bw hF.out
      case true =>
        obtain ⟨⟨pw, A5, E5⟩, h5⟩ : ∃ r, r = rawV l A4 := ⟨_, rfl⟩
        have T := rraw_any _ l A4 _ p.b h256.out hl (by have := A4h.out; omega)
        have AA := Lib.hid (raw_in l A4)
        rw [← h5] at T AA
        unfold GetPost at T
        simp only at T
        replace T := Lib.hid T
        replace h5 := Lib.hid h5
        have P := Lib.hid p
        clear p
        go_wp2_with fail
        refine T.out.mono ?_
        rintro e w5 ⟨rfl, b⟩
        have p := P.out.ext b
        clear T P b
        by_cases hE : E5 = 0
        rotate_left
        · have hF : R = (con0, E5) := by
            have hx := hR8.out
            unfold passV at hx
            simp only [if_true, if_false, Bool.false_eq_true] at hx
            rw [← h5.out] at hx
            try simp only at hx
            exact hx.trans (if_pos hE)
          have P := Lib.hid p
          clear p
          replace hF := Lib.hid hF
          have hE' : (E5 != 0) = true := by simpa using hE
          go_wp2_with (refine wpList_store_row rfl 29 (.tmp 10) (.tmp 99) rfl (w.heap.size + 1) con0.v rfl rfl 29 con0.v P.out.r con_size rfl con_one ?_; rw [P.out.same])
          exact rest_end P.out.r rfl rfl P.out.bw hF.out
        subst hE
        have hR9 : R = endV l ⟨lev, clean, keep, cl, true, tp, tx, q, r, true, us, true, pw⟩ A5 := by
          have hx := hR8.out
          unfold passV at hx
          simp only [if_true, if_false, Bool.false_eq_true] at hx
          rw [← h5.out] at hx
          try simp only at hx
          exact hx.trans (if_neg (fun x => x rfl))
        replace hR9 := Lib.hid hR9
        clear hR8
        have A5h := Lib.hid (AA.out rfl)
        clear AA h5
        have p0 := p
        clear p
        have xi12 : w5.cell? ⟨w.heap.size + 1 + 1, 12, none⟩ = some (.string pass) := (p0.c.cell 12).trans rfl
        have zi12 := p0.c.fz 12
        have q12 := p0.set 12 (.string pw) (X' := ⟨lev, clean, keep, cl, true, tp, tx, q, r, true, us, true, pw⟩) rfl
        have p := q12
        clear p0 q12
        by_cases hE : A5 = (l.length : Int)
        · have hF : R = (⟨lev, clean, keep, cl, true, tp, tx, q, r, true, us, true, pw⟩, 0) := by
            have hx := hR9.out
            unfold endV at hx
            exact hx.trans (if_neg (fun x => x hE))
          replace hF := Lib.hid hF
          have P := Lib.hid p
          clear p
          have U := Lib.hid P.out.put
          have hE' : (A5 != (l.length : Int)) = false := by simp [hE]
          go_wp2_with (first
            | (refine wpList_load_row rfl 29 (.tmp 12) rfl (w.heap.size + 1 + 1) rfl 29 (Con.v ⟨lev, clean, keep, cl, true, tp, tx, q, r, true, us, true, pw⟩) (0, 0) _ ?_ Tryd.underlying29 rfl (con_sizeX _) ?_; exact P.out.c)
            | (refine wpList_store_row rfl 29 (.tmp 10) (.tmp 109) rfl (w.heap.size + 1) (Con.v ⟨lev, clean, keep, cl, true, tp, tx, q, r, true, us, true, pw⟩) rfl rfl 29 con0.v ?_ (con_sizeX _) rfl (con_oneX _) ?_; exact P.out.r))
          exact rest_end U.out.1 rfl rfl U.out.2 hF.out
        · have hF : R = (con0, 4) := by
            have hx := hR9.out
            unfold endV at hx
            exact hx.trans (if_pos hE)
          replace hF := Lib.hid hF
          have P := Lib.hid p
          clear p
          have hE' : (A5 != (l.length : Int)) = true := by simpa using hE
          go_wp2_with (first
            | (refine wpList_store_row rfl 29 (.tmp 10) (.tmp 108) rfl (w.heap.size + 1) con0.v rfl rfl 29 con0.v ?_ con_size rfl con_one ?_; exact P.out.r; rw [P.out.same]))
          exact rest_end P.out.r rfl rfl P.out.bw hF.out
end Go.Proofs.YtmpklaokgogigaaDoor.Con

/-
  LAYER 6: Joined, the program's.
-/
import Derived.Test.YtoglgdkeknojkaaMg
namespace Go.Proofs.Ytoglgdkeknojkaa
open Go.RowKit

/-- A part set. -/
def setP (i : Nat) (m : Me) (n : Nat) (s : ByteArray) : Me :=
  if i = 0 then { m with multi := ((n : Int) == 1) } else if i = 1 then { m with type := s } else if i = 2 then { m with size := n } else if i = 3 then { m with seq := n }
  else if i = 4 then { m with file := s } else if i = 5 then { m with kind := s } else if i = 6 then { m with md5 := s } else { m with desc := s }
def joinAt (b : Me) (a : Me) (i : Nat) : Me := if getN i b = 0 ∧ (getS i b).size = 0 then a else setP i a (getN i b) (getS i b)
def joinK (a b : Me) (k : Nat) : Me := (List.range k).foldl (joinAt b) a
theorem joinK_succ (a b : Me) (k : Nat) : joinK a b (k + 1) = joinAt b (joinK a b k) k := by simp [joinK, List.range_succ, List.foldl_append]
/-- All blocks but one are as they were. -/
def FarFrom (r : Nat) (w1 w : World) : Prop := w1.heap.size ≤ w.heap.size ∧ ∀ g, g < w1.heap.size → g ≠ r → w.heap[g]? = w1.heap[g]?
theorem FarFrom.refl (r : Nat) (w : World) : FarFrom r w w := ⟨Nat.le_refl _, fun _ _ _ => rfl⟩
theorem FarFrom.ext {r : Nat} {w1 w w' : World} (h : FarFrom r w1 w) (hb : Below w.heap.size w w') : FarFrom r w1 w' :=
  ⟨Nat.le_trans h.1 hb.size, fun g hg hr => (hb.block g (Nat.lt_of_lt_of_le hg h.1)).trans (h.2 g hg hr)⟩
theorem FarFrom.set {r : Nat} {w1 w : World} (h : FarFrom r w1 w) (i : Nat) (v : Value) : FarFrom r w1 (w.setCell ⟨r, i, none⟩ v) :=
  ⟨by simpa using h.1, fun g hg hr => (Below.heap_setCell w ⟨r, i, none⟩ v g hr).trans (h.2 g hg hr)⟩
theorem FarFrom.blk {r g : Nat} {w1 w : World} {t t' : TypeId} {cs cs' : Array Value} (h : FarFrom r w1 w) (hg : Blk w1 g t cs) (hr : Blk w1 r t' cs') (ht : t ≠ t') : Blk w g t cs := by
  refine (h.2 g hg.lt ?_).trans hg
  rintro rfl
  unfold Blk at hg hr
  rw [hg] at hr
  simp only [Option.some.injEq, Obj.cells.injEq] at hr
  exact ht hr.2.1
theorem FarFrom.blk' {r g : Nat} {w1 w : World} {t : TypeId} {cs : Array Value} (h : FarFrom r w1 w) (hg : Blk w1 g t cs) (hr : g ≠ r) : Blk w g t cs := (h.2 g hg.lt hr).trans hg
theorem FarFrom.parts {r : Nat} {w1 w : World} {cs' : Array Value} {b g1 g2 g3 g4 g5 g6 g7 : Nat} (h : FarFrom r w1 w) (hp : Parts w1 b g1 g2 g3 g4 g5 g6 g7) (hr : Blk w1 r 24 cs') : Parts w b g1 g2 g3 g4 g5 g6 g7 := by
  obtain ⟨h0, h1, h2, h3, h4, h5, h6, h7⟩ := hp
  exact ⟨h.blk h0 hr (by decide), h.blk h1 hr (by decide), h.blk h2 hr (by decide), h.blk h3 hr (by decide), h.blk h4 hr (by decide), h.blk h5 hr (by decide), h.blk h6 hr (by decide), h.blk h7 hr (by decide)⟩
def zeroM : Me := ⟨false, ⟨#[]⟩, 0, 0, ⟨#[]⟩, ⟨#[]⟩, ⟨#[]⟩, ⟨#[]⟩⟩
def MeP (m : Me) (w : World) (e : Ending) (w' : World) : Prop := e = .returned m.val ∧ Below w.heap.size w w'
theorem set_cells_0 (m : Me) (n : Nat) (s : ByteArray) : m.cells.setIfInBounds 0 (.bool ((n : Int) == 1)) = (setP 0 m n s).cells := rfl
theorem set_cells_1 (m : Me) (n : Nat) (s : ByteArray) : m.cells.setIfInBounds 1 (.string s) = (setP 1 m n s).cells := rfl
theorem set_cells_2 (m : Me) (n : Nat) (s : ByteArray) : m.cells.setIfInBounds 2 (.int .u64 (n : Nat)) = (setP 2 m n s).cells := rfl
theorem set_cells_3 (m : Me) (n : Nat) (s : ByteArray) : m.cells.setIfInBounds 3 (.int .u64 (n : Nat)) = (setP 3 m n s).cells := rfl
theorem set_cells_4 (m : Me) (n : Nat) (s : ByteArray) : m.cells.setIfInBounds 4 (.string s) = (setP 4 m n s).cells := rfl
theorem set_cells_5 (m : Me) (n : Nat) (s : ByteArray) : m.cells.setIfInBounds 5 (.string s) = (setP 5 m n s).cells := rfl
theorem set_cells_6 (m : Me) (n : Nat) (s : ByteArray) : m.cells.setIfInBounds 6 (.string s) = (setP 6 m n s).cells := rfl
theorem set_cells_7 (m : Me) (n : Nat) (s : ByteArray) : m.cells.setIfInBounds 7 (.string s) = (setP 7 m n s).cells := rfl
set_option maxHeartbeats 8000000 in
set_option maxRecDepth 100000 in
theorem joined9_any (a b : Me) (w : World) : Calls Try.prog 9 #[a.val, b.val] w (MeP (joinK a b 8) w) := by
  unfold Me.val
  have ea : a.cells = #[.bool a.multi, .string a.type, .int .u64 (a.size : Nat), .int .u64 (a.seq : Nat), .string a.file, .string a.kind, .string a.md5, .string a.desc] := rfl
  have eb : b.cells = #[.bool b.multi, .string b.type, .int .u64 (b.size : Nat), .int .u64 (b.seq : Nat), .string b.file, .string b.kind, .string b.md5, .string b.desc] := rfl
  have hA1 : Blk ((w.alloc (.cells a.cells 24)).alloc (.cells b.cells 24)) w.heap.size 24 a.cells := Blk.alloc (Blk.new w 24 _) _
  have hA2 : Blk ((w.alloc (.cells a.cells 24)).alloc (.cells b.cells 24)) (w.heap.size + 1) 24 b.cells := by
    have h := Blk.new (w.alloc (.cells a.cells 24)) 24 b.cells
    rw [show (w.alloc (.cells a.cells 24)).heap.size = w.heap.size + 1 by simp] at h
    exact h
  have hA3 : Blk (((w.alloc (.cells a.cells 24)).alloc (.cells b.cells 24)).alloc (.cells zeroM.cells 24)) (w.heap.size + 1 + 1) 24 zeroM.cells := by
    have h := Blk.new ((w.alloc (.cells a.cells 24)).alloc (.cells b.cells 24)) 24 zeroM.cells
    rw [show ((w.alloc (.cells a.cells 24)).alloc (.cells b.cells 24)).heap.size = w.heap.size + 1 + 1 by simp] at h
    exact h
  have hB := (((ext_alloc w (.cells a.cells 24)).alloc (by simp) (.cells b.cells 24)).alloc (by simp; omega) (.cells zeroM.cells 24))
  replace hA1 := Blk.alloc hA1 (.cells zeroM.cells 24)
  replace hA2 := Blk.alloc hA2 (.cells zeroM.cells 24)
  have ez : zeroM.cells = #[.bool false, .string ⟨#[]⟩, .int .u64 0, .int .u64 0, .string ⟨#[]⟩, .string ⟨#[]⟩, .string ⟨#[]⟩, .string ⟨#[]⟩] := rfl
  have W0 : ((w.alloc (.cells a.cells 24)).alloc (.cells b.cells 24)).alloc (.cells zeroM.cells 24) = ((w.alloc (.cells a.cells 24)).alloc (.cells b.cells 24)).alloc (.cells zeroM.cells 24) := rfl
  generalize hW : ((w.alloc (.cells a.cells 24)).alloc (.cells b.cells 24)).alloc (.cells zeroM.cells 24) = W at hA1 hA2 hA3 hB
  rw [ea, eb, ez] at hW
  rw [ea, eb]
  have P := parts_any W
  rw [← hW] at P
  clear W0
  replace ea := Lib.hid ea
  replace eb := Lib.hid eb
  replace ez := Lib.hid ez
  replace hA1 := Lib.hid hA1
  replace hA2 := Lib.hid hA2
  replace hA3 := Lib.hid hA3
  replace hB := Lib.hid hB
  replace P := Lib.hid P
  replace hW := Lib.hid hW
  go_enter Try.func9, Try.ntmps9
  go_wp2_with fail
  refine P.out.mono ?_
  rintro e w1 ⟨pb, g1, g2, g3, g4, g5, g6, g7, rfl, hP, hb⟩
  rw [hW.out] at hb
  have hM1 := Lib.hid (Blk.ext hA1.out hb)
  have hM2 := Lib.hid (Blk.ext hA2.out hb)
  have hM3 := Lib.hid (Blk.ext hA3.out hb)
  have hB1 := Lib.hid (hB.out.trans (hb.mono hB.out.size))
  replace hP := Lib.hid hP
  clear hb
  go_wp2_with fail
  go_loopw [11] (fun i wr => ∃ k : Nat, i = .int .i64 k ∧ k ≤ 8 ∧ Blk wr w.heap.size 24 (joinK a b k).cells ∧ FarFrom w.heap.size w1 wr ∧ Below w.heap.size w wr) (fun i _ => 8 - (intOf i).toNat)
  case atStart => exact ⟨0, rfl, by omega, hM1.out, FarFrom.refl _ _, hB1.out⟩
  case round =>
    obtain ⟨k, rfl, hk, hM, hf, hb1⟩ := hrel
    have hN2 := hf.blk' hM2.out (by omega)
    have hN3 := hf.blk' hM3.out (by omega)
    obtain ⟨p0, p1, p2, p3, p4, p5, p6, p7⟩ := hf.parts hP.out hM1.out
    have ltM : w.heap.size < wr.heap.size := Blk.lt hM
    have ltN : w.heap.size + 1 < wr.heap.size := Blk.lt hN2
    have ltO : w.heap.size + 1 + 1 < wr.heap.size := Blk.lt hN3
    obtain ⟨c0, c1, c2, c3, c4, c5, c6, c7⟩ := Blk.m8 hN2
    obtain ⟨a0, a1, a2, a3, a4, a5, a6, a7⟩ := Blk.m8 hM
    have hFz := Lib.hid (fun j => Blk.fz hM j)
    replace hb1 := Lib.hid hb1
    replace hf := Lib.hid hf
    by_cases hend : k = 8
    · subst hend
      have z0 := hN3.fz 0
      have z1 := hN3.fz 1
      have z2 := hN3.fz 2
      have z3 := hN3.fz 3
      have z4 := hN3.fz 4
      have z5 := hN3.fz 5
      have z6 := hN3.fz 6
      have z7 := hN3.fz 7
      obtain ⟨y0, y1, y2, y3, y4, y5, y6, y7⟩ := Blk.m8 hN3
      generalize joinK a b 8 = J at *
      clear p0 p1 p2 p3 p4 p5 p6 p7 c0 c1 c2 c3 c4 c5 c6 c7 hM hN2 hN3
      go_wp2_with fail
      exact bodyPost_ret (v := J.val) (by simp [results, Try.results9, go_sem, Me.val, Me.cells, y0, y1, y2, y3, y4, y5, y6, y7]) rfl ⟨rfl, (((((((hb1.out.setCell (by simp; omega) _).setCell (by simp; omega) _).setCell (by simp; omega) _).setCell (by simp; omega) _).setCell (by simp; omega) _).setCell (by simp; omega) _).setCell (by simp; omega) _).setCell (by simp; omega) _⟩
    have hk8 : k = 0 ∨ k = 1 ∨ k = 2 ∨ k = 3 ∨ k = 4 ∨ k = 5 ∨ k = 6 ∨ k = 7 := by omega
    have hstep := joinK_succ a b k
    clear hk hend hN3
    rcases hk8 with rfl | rfl | rfl | rfl | rfl | rfl | rfl | rfl
    · have q0 := Blk.cell p0 0
      have q1 := Blk.cell p0 1
      have q2 := Blk.cell p0 2
      have q3 := Blk.cell p0 3
      have q4 := Blk.cell p0 4
      simp only [List.getElem?_toArray, List.getElem?_cons_succ, List.getElem?_cons_zero] at q0 q1 q2 q3 q4
      have G := Lib.hid (fun w => multi_any b w)
      unfold Me.val at G
      rw [eb.out] at G
      unfold joinAt at hstep
      generalize getN 0 b = gn at *
      generalize getS 0 b = gt at *
      have hM' := Lib.hid hM
      clear p0 p1 p2 p3 p4 p5 p6 p7 hN2 hM a0 a1 a2 a3 a4 a5 a6 a7
      obtain ⟨pc, gpc⟩ : ∃ pc : Array Value, pc = #[.int .i64 1, .int .i64 0, .int .u64 1, .func (.func 24) #[] #[], .func (.func 25) #[] #[]] := ⟨_, rfl⟩
      have hb0 := ext_alloc wr (.cells pc 49)
      have bx0 := Blk.new wr 49 pc
      rw [gpc] at hb0 bx0
      replace hb0 := Lib.hid hb0
      replace bx0 := Lib.hid bx0
      replace gpc := Lib.hid gpc
      go_wp2_with fail
      refine (G.out _).mono ?_
      rintro e w2 ⟨rfl, b2⟩
      have bx := Blk.ext bx0.out b2
      have r4 := Blk.cell bx 4
      simp only [List.getElem?_toArray, List.getElem?_cons_succ, List.getElem?_cons_zero] at r4
      have e2 := Lib.hid (ext_trans hb0.out b2)
      have B2 := Lib.hid (hb1.out.trans (e2.out.mono hb1.out.size))
      have M2 := Blk.ext hM'.out e2.out
      have f2 := Lib.hid (hf.out.ext e2.out)
      obtain ⟨a0, a1, a2, a3, a4, a5, a6, a7⟩ := Blk.m8 M2
      have zz := M2.fz 0
      replace M2 := Lib.hid M2
      clear bx b2 q0 q1 q2 q3 q4 c0 c1 c2 c3 c4 c5 c6 c7
      by_cases hz : gn = 0 ∧ gt.size = 0
      · rw [if_pos hz] at hstep
        obtain ⟨rfl, hz⟩ := hz
        obtain rfl := size0 hz
        replace hstep := Lib.hid hstep
        replace hz := Lib.hid hz
        go_wp2_with fail
        go_roundw
        case rel => exact ⟨1, by simp, by omega, by rw [hstep.out]; exact M2.out, f2.out, B2.out⟩
        case measure => simp [intOf]
      · rw [if_neg hz] at hstep
        have ht : (gn = 0 ∧ gt.size ≠ 0) ∨ gn ≠ 0 := by
          by_cases h : gn = 0
          · exact .inl ⟨h, fun h2 => hz ⟨h, h2⟩⟩
          · exact .inr h
        have hfin : Blk (w2.setCell ⟨w.heap.size, 0, none⟩ (.bool ((gn : Int) == 1))) w.heap.size 24 (joinK a b 1).cells := by
          rw [hstep, ← set_cells_0]; exact Blk.set M2.out 0 _
        have ST := Lib.hid (set_0 w.heap.size gn gt w2 _ a0 zz _ rfl)
        replace hfin := Lib.hid hfin
        replace hstep := Lib.hid hstep
        clear hz
        rcases ht with ⟨rfl, ht⟩ | ht
        · have ht' := size1 ht
          replace ht := Lib.hid ht
          rw [Int.natCast_zero] at ST
          go_wp2_with fail
          refine ST.out.mono ?_
          rintro e w3 ⟨⟨u, rfl⟩, rfl⟩
          go_wp2_with fail
          go_roundw
          case rel => exact ⟨1, by simp, by omega, hfin.out, f2.out.set _ _, B2.out.setCell (by simp) _⟩
          case measure => simp [intOf]
        · have ht' : ((gn : Int) != 0) = true := by simpa using ht
          replace ht := Lib.hid ht
          go_wp2_with fail
          refine ST.out.mono ?_
          rintro e w3 ⟨⟨u, rfl⟩, rfl⟩
          go_wp2_with fail
          go_roundw
          case rel => exact ⟨1, by simp, by omega, hfin.out, f2.out.set _ _, B2.out.setCell (by simp) _⟩
          case measure => simp [intOf]
    · have q0 := Blk.cell p0 5
      have q1 := Blk.cell p0 6
      have q2 := Blk.cell p0 7
      have q3 := Blk.cell p0 8
      have q4 := Blk.cell p0 9
      simp only [List.getElem?_toArray, List.getElem?_cons_succ, List.getElem?_cons_zero] at q0 q1 q2 q3 q4
      have h1 := Cap.cell0 p1
      have hcap := p1
      have G := Lib.hid (fun w h => get_1 b g1 w h)
      unfold Me.val at G
      rw [eb.out] at G
      unfold joinAt at hstep
      generalize getN 1 b = gn at *
      generalize getS 1 b = gt at *
      have hM' := Lib.hid hM
      clear p0 p1 p2 p3 p4 p5 p6 p7 hN2 hM a0 a1 a2 a3 a4 a5 a6 a7
      obtain ⟨pc, gpc⟩ : ∃ pc : Array Value, pc = #[.int .i64 2, .int .i64 2, .int .u64 0, .func (.func 45) #[] #[.pointer (some ⟨g1, 0, none⟩)], .func (.func 46) #[] #[.pointer (some ⟨g1, 0, none⟩)]] := ⟨_, rfl⟩
      have hx := capt (.cells pc 49) h1
      rw [gpc] at hx
      have hb0 := ext_alloc wr (.cells pc 49)
      have bx0 := Blk.new wr 49 pc
      rw [gpc] at hb0 bx0
      replace hb0 := Lib.hid hb0
      replace bx0 := Lib.hid bx0
      replace gpc := Lib.hid gpc
      go_wp2_with fail
      refine (G.out _ hx).mono ?_
      rintro e w2 ⟨rfl, b2⟩
      have bx := Blk.ext bx0.out b2
      have r4 := Blk.cell bx 4
      simp only [List.getElem?_toArray, List.getElem?_cons_succ, List.getElem?_cons_zero] at r4
      have e2 := Lib.hid (ext_trans hb0.out b2)
      have B2 := Lib.hid (hb1.out.trans (e2.out.mono hb1.out.size))
      have M2 := Blk.ext hM'.out e2.out
      have f2 := Lib.hid (hf.out.ext e2.out)
      obtain ⟨a0, a1, a2, a3, a4, a5, a6, a7⟩ := Blk.m8 M2
      have zz := M2.fz 1
      have hk2 := Cap.cell0 (Blk.ext hcap e2.out)
      replace M2 := Lib.hid M2
      clear bx b2 q0 q1 q2 q3 q4 h1 hx hcap c0 c1 c2 c3 c4 c5 c6 c7
      by_cases hz : gn = 0 ∧ gt.size = 0
      · rw [if_pos hz] at hstep
        obtain ⟨rfl, hz⟩ := hz
        obtain rfl := size0 hz
        replace hstep := Lib.hid hstep
        replace hz := Lib.hid hz
        go_wp2_with fail
        go_roundw
        case rel => exact ⟨2, by simp, by omega, by rw [hstep.out]; exact M2.out, f2.out, B2.out⟩
        case measure => simp [intOf]
      · rw [if_neg hz] at hstep
        have ht : (gn = 0 ∧ gt.size ≠ 0) ∨ gn ≠ 0 := by
          by_cases h : gn = 0
          · exact .inl ⟨h, fun h2 => hz ⟨h, h2⟩⟩
          · exact .inr h
        have hfin : Blk (w2.setCell ⟨w.heap.size, 1, none⟩ (.string gt)) w.heap.size 24 (joinK a b 2).cells := by
          rw [hstep, ← set_cells_1]; exact Blk.set M2.out 1 _
        have ST := Lib.hid (set_1 w.heap.size g1 gn gt w2 _ _ hk2 a0 a1 zz)
        replace hfin := Lib.hid hfin
        replace hstep := Lib.hid hstep
        clear hz
        rcases ht with ⟨rfl, ht⟩ | ht
        · have ht' := size1 ht
          replace ht := Lib.hid ht
          rw [Int.natCast_zero] at ST
          go_wp2_with fail
          refine ST.out.mono ?_
          rintro e w3 ⟨⟨u, rfl⟩, rfl⟩
          go_wp2_with fail
          go_roundw
          case rel => exact ⟨2, by simp, by omega, hfin.out, f2.out.set _ _, B2.out.setCell (by simp) _⟩
          case measure => simp [intOf]
        · have ht' : ((gn : Int) != 0) = true := by simpa using ht
          replace ht := Lib.hid ht
          go_wp2_with fail
          refine ST.out.mono ?_
          rintro e w3 ⟨⟨u, rfl⟩, rfl⟩
          go_wp2_with fail
          go_roundw
          case rel => exact ⟨2, by simp, by omega, hfin.out, f2.out.set _ _, B2.out.setCell (by simp) _⟩
          case measure => simp [intOf]
    · have q0 := Blk.cell p0 10
      have q1 := Blk.cell p0 11
      have q2 := Blk.cell p0 12
      have q3 := Blk.cell p0 13
      have q4 := Blk.cell p0 14
      simp only [List.getElem?_toArray, List.getElem?_cons_succ, List.getElem?_cons_zero] at q0 q1 q2 q3 q4
      have h2 := Cap.cell0 p2
      have hcap := p2
      have G := Lib.hid (fun w h => get_2 b g2 w h)
      unfold Me.val at G
      rw [eb.out] at G
      unfold joinAt at hstep
      generalize getN 2 b = gn at *
      generalize getS 2 b = gt at *
      have hM' := Lib.hid hM
      clear p0 p1 p2 p3 p4 p5 p6 p7 hN2 hM a0 a1 a2 a3 a4 a5 a6 a7
      obtain ⟨pc, gpc⟩ : ∃ pc : Array Value, pc = #[.int .i64 3, .int .i64 0, .int .u64 18446744073709551615, .func (.func 47) #[] #[.pointer (some ⟨g2, 0, none⟩)], .func (.func 48) #[] #[.pointer (some ⟨g2, 0, none⟩)]] := ⟨_, rfl⟩
      have hx := capt (.cells pc 49) h2
      rw [gpc] at hx
      have hb0 := ext_alloc wr (.cells pc 49)
      have bx0 := Blk.new wr 49 pc
      rw [gpc] at hb0 bx0
      replace hb0 := Lib.hid hb0
      replace bx0 := Lib.hid bx0
      replace gpc := Lib.hid gpc
      go_wp2_with fail
      refine (G.out _ hx).mono ?_
      rintro e w2 ⟨rfl, b2⟩
      have bx := Blk.ext bx0.out b2
      have r4 := Blk.cell bx 4
      simp only [List.getElem?_toArray, List.getElem?_cons_succ, List.getElem?_cons_zero] at r4
      have e2 := Lib.hid (ext_trans hb0.out b2)
      have B2 := Lib.hid (hb1.out.trans (e2.out.mono hb1.out.size))
      have M2 := Blk.ext hM'.out e2.out
      have f2 := Lib.hid (hf.out.ext e2.out)
      obtain ⟨a0, a1, a2, a3, a4, a5, a6, a7⟩ := Blk.m8 M2
      have zz := M2.fz 2
      have hk2 := Cap.cell0 (Blk.ext hcap e2.out)
      replace M2 := Lib.hid M2
      clear bx b2 q0 q1 q2 q3 q4 h2 hx hcap c0 c1 c2 c3 c4 c5 c6 c7
      by_cases hz : gn = 0 ∧ gt.size = 0
      · rw [if_pos hz] at hstep
        obtain ⟨rfl, hz⟩ := hz
        obtain rfl := size0 hz
        replace hstep := Lib.hid hstep
        replace hz := Lib.hid hz
        go_wp2_with fail
        go_roundw
        case rel => exact ⟨3, by simp, by omega, by rw [hstep.out]; exact M2.out, f2.out, B2.out⟩
        case measure => simp [intOf]
      · rw [if_neg hz] at hstep
        have ht : (gn = 0 ∧ gt.size ≠ 0) ∨ gn ≠ 0 := by
          by_cases h : gn = 0
          · exact .inl ⟨h, fun h2 => hz ⟨h, h2⟩⟩
          · exact .inr h
        have hfin : Blk (w2.setCell ⟨w.heap.size, 2, none⟩ (.int .u64 (gn : Nat))) w.heap.size 24 (joinK a b 3).cells := by
          rw [hstep, ← set_cells_2]; exact Blk.set M2.out 2 _
        have ST := Lib.hid (set_2 w.heap.size g2 gn gt w2 _ _ hk2 a0 a2 zz)
        replace hfin := Lib.hid hfin
        replace hstep := Lib.hid hstep
        clear hz
        rcases ht with ⟨rfl, ht⟩ | ht
        · have ht' := size1 ht
          replace ht := Lib.hid ht
          rw [Int.natCast_zero] at ST
          go_wp2_with fail
          refine ST.out.mono ?_
          rintro e w3 ⟨⟨u, rfl⟩, rfl⟩
          go_wp2_with fail
          go_roundw
          case rel => exact ⟨3, by simp, by omega, hfin.out, f2.out.set _ _, B2.out.setCell (by simp) _⟩
          case measure => simp [intOf]
        · have ht' : ((gn : Int) != 0) = true := by simpa using ht
          replace ht := Lib.hid ht
          go_wp2_with fail
          refine ST.out.mono ?_
          rintro e w3 ⟨⟨u, rfl⟩, rfl⟩
          go_wp2_with fail
          go_roundw
          case rel => exact ⟨3, by simp, by omega, hfin.out, f2.out.set _ _, B2.out.setCell (by simp) _⟩
          case measure => simp [intOf]
    · have q0 := Blk.cell p0 15
      have q1 := Blk.cell p0 16
      have q2 := Blk.cell p0 17
      have q3 := Blk.cell p0 18
      have q4 := Blk.cell p0 19
      simp only [List.getElem?_toArray, List.getElem?_cons_succ, List.getElem?_cons_zero] at q0 q1 q2 q3 q4
      have h3 := Cap.cell0 p3
      have hcap := p3
      have G := Lib.hid (fun w h => get_3 b g3 w h)
      unfold Me.val at G
      rw [eb.out] at G
      unfold joinAt at hstep
      generalize getN 3 b = gn at *
      generalize getS 3 b = gt at *
      have hM' := Lib.hid hM
      clear p0 p1 p2 p3 p4 p5 p6 p7 hN2 hM a0 a1 a2 a3 a4 a5 a6 a7
      obtain ⟨pc, gpc⟩ : ∃ pc : Array Value, pc = #[.int .i64 4, .int .i64 0, .int .u64 18446744073709551615, .func (.func 47) #[] #[.pointer (some ⟨g3, 0, none⟩)], .func (.func 48) #[] #[.pointer (some ⟨g3, 0, none⟩)]] := ⟨_, rfl⟩
      have hx := capt (.cells pc 49) h3
      rw [gpc] at hx
      have hb0 := ext_alloc wr (.cells pc 49)
      have bx0 := Blk.new wr 49 pc
      rw [gpc] at hb0 bx0
      replace hb0 := Lib.hid hb0
      replace bx0 := Lib.hid bx0
      replace gpc := Lib.hid gpc
      go_wp2_with fail
      refine (G.out _ hx).mono ?_
      rintro e w2 ⟨rfl, b2⟩
      have bx := Blk.ext bx0.out b2
      have r4 := Blk.cell bx 4
      simp only [List.getElem?_toArray, List.getElem?_cons_succ, List.getElem?_cons_zero] at r4
      have e2 := Lib.hid (ext_trans hb0.out b2)
      have B2 := Lib.hid (hb1.out.trans (e2.out.mono hb1.out.size))
      have M2 := Blk.ext hM'.out e2.out
      have f2 := Lib.hid (hf.out.ext e2.out)
      obtain ⟨a0, a1, a2, a3, a4, a5, a6, a7⟩ := Blk.m8 M2
      have zz := M2.fz 3
      have hk2 := Cap.cell0 (Blk.ext hcap e2.out)
      replace M2 := Lib.hid M2
      clear bx b2 q0 q1 q2 q3 q4 h3 hx hcap c0 c1 c2 c3 c4 c5 c6 c7
      by_cases hz : gn = 0 ∧ gt.size = 0
      · rw [if_pos hz] at hstep
        obtain ⟨rfl, hz⟩ := hz
        obtain rfl := size0 hz
        replace hstep := Lib.hid hstep
        replace hz := Lib.hid hz
        go_wp2_with fail
        go_roundw
        case rel => exact ⟨4, by simp, by omega, by rw [hstep.out]; exact M2.out, f2.out, B2.out⟩
        case measure => simp [intOf]
      · rw [if_neg hz] at hstep
        have ht : (gn = 0 ∧ gt.size ≠ 0) ∨ gn ≠ 0 := by
          by_cases h : gn = 0
          · exact .inl ⟨h, fun h2 => hz ⟨h, h2⟩⟩
          · exact .inr h
        have hfin : Blk (w2.setCell ⟨w.heap.size, 3, none⟩ (.int .u64 (gn : Nat))) w.heap.size 24 (joinK a b 4).cells := by
          rw [hstep, ← set_cells_3]; exact Blk.set M2.out 3 _
        have ST := Lib.hid (set_3 w.heap.size g3 gn gt w2 _ _ hk2 a0 a3 zz)
        replace hfin := Lib.hid hfin
        replace hstep := Lib.hid hstep
        clear hz
        rcases ht with ⟨rfl, ht⟩ | ht
        · have ht' := size1 ht
          replace ht := Lib.hid ht
          rw [Int.natCast_zero] at ST
          go_wp2_with fail
          refine ST.out.mono ?_
          rintro e w3 ⟨⟨u, rfl⟩, rfl⟩
          go_wp2_with fail
          go_roundw
          case rel => exact ⟨4, by simp, by omega, hfin.out, f2.out.set _ _, B2.out.setCell (by simp) _⟩
          case measure => simp [intOf]
        · have ht' : ((gn : Int) != 0) = true := by simpa using ht
          replace ht := Lib.hid ht
          go_wp2_with fail
          refine ST.out.mono ?_
          rintro e w3 ⟨⟨u, rfl⟩, rfl⟩
          go_wp2_with fail
          go_roundw
          case rel => exact ⟨4, by simp, by omega, hfin.out, f2.out.set _ _, B2.out.setCell (by simp) _⟩
          case measure => simp [intOf]
    · have q0 := Blk.cell p0 20
      have q1 := Blk.cell p0 21
      have q2 := Blk.cell p0 22
      have q3 := Blk.cell p0 23
      have q4 := Blk.cell p0 24
      simp only [List.getElem?_toArray, List.getElem?_cons_succ, List.getElem?_cons_zero] at q0 q1 q2 q3 q4
      have h4 := Cap.cell0 p4
      have hcap := p4
      have G := Lib.hid (fun w h => get_4 b g4 w h)
      unfold Me.val at G
      rw [eb.out] at G
      unfold joinAt at hstep
      generalize getN 4 b = gn at *
      generalize getS 4 b = gt at *
      have hM' := Lib.hid hM
      clear p0 p1 p2 p3 p4 p5 p6 p7 hN2 hM a0 a1 a2 a3 a4 a5 a6 a7
      obtain ⟨pc, gpc⟩ : ∃ pc : Array Value, pc = #[.int .i64 5, .int .i64 2, .int .u64 0, .func (.func 45) #[] #[.pointer (some ⟨g4, 0, none⟩)], .func (.func 46) #[] #[.pointer (some ⟨g4, 0, none⟩)]] := ⟨_, rfl⟩
      have hx := capt (.cells pc 49) h4
      rw [gpc] at hx
      have hb0 := ext_alloc wr (.cells pc 49)
      have bx0 := Blk.new wr 49 pc
      rw [gpc] at hb0 bx0
      replace hb0 := Lib.hid hb0
      replace bx0 := Lib.hid bx0
      replace gpc := Lib.hid gpc
      go_wp2_with fail
      refine (G.out _ hx).mono ?_
      rintro e w2 ⟨rfl, b2⟩
      have bx := Blk.ext bx0.out b2
      have r4 := Blk.cell bx 4
      simp only [List.getElem?_toArray, List.getElem?_cons_succ, List.getElem?_cons_zero] at r4
      have e2 := Lib.hid (ext_trans hb0.out b2)
      have B2 := Lib.hid (hb1.out.trans (e2.out.mono hb1.out.size))
      have M2 := Blk.ext hM'.out e2.out
      have f2 := Lib.hid (hf.out.ext e2.out)
      obtain ⟨a0, a1, a2, a3, a4, a5, a6, a7⟩ := Blk.m8 M2
      have zz := M2.fz 4
      have hk2 := Cap.cell0 (Blk.ext hcap e2.out)
      replace M2 := Lib.hid M2
      clear bx b2 q0 q1 q2 q3 q4 h4 hx hcap c0 c1 c2 c3 c4 c5 c6 c7
      by_cases hz : gn = 0 ∧ gt.size = 0
      · rw [if_pos hz] at hstep
        obtain ⟨rfl, hz⟩ := hz
        obtain rfl := size0 hz
        replace hstep := Lib.hid hstep
        replace hz := Lib.hid hz
        go_wp2_with fail
        go_roundw
        case rel => exact ⟨5, by simp, by omega, by rw [hstep.out]; exact M2.out, f2.out, B2.out⟩
        case measure => simp [intOf]
      · rw [if_neg hz] at hstep
        have ht : (gn = 0 ∧ gt.size ≠ 0) ∨ gn ≠ 0 := by
          by_cases h : gn = 0
          · exact .inl ⟨h, fun h2 => hz ⟨h, h2⟩⟩
          · exact .inr h
        have hfin : Blk (w2.setCell ⟨w.heap.size, 4, none⟩ (.string gt)) w.heap.size 24 (joinK a b 5).cells := by
          rw [hstep, ← set_cells_4]; exact Blk.set M2.out 4 _
        have ST := Lib.hid (set_4 w.heap.size g4 gn gt w2 _ _ hk2 a0 a4 zz)
        replace hfin := Lib.hid hfin
        replace hstep := Lib.hid hstep
        clear hz
        rcases ht with ⟨rfl, ht⟩ | ht
        · have ht' := size1 ht
          replace ht := Lib.hid ht
          rw [Int.natCast_zero] at ST
          go_wp2_with fail
          refine ST.out.mono ?_
          rintro e w3 ⟨⟨u, rfl⟩, rfl⟩
          go_wp2_with fail
          go_roundw
          case rel => exact ⟨5, by simp, by omega, hfin.out, f2.out.set _ _, B2.out.setCell (by simp) _⟩
          case measure => simp [intOf]
        · have ht' : ((gn : Int) != 0) = true := by simpa using ht
          replace ht := Lib.hid ht
          go_wp2_with fail
          refine ST.out.mono ?_
          rintro e w3 ⟨⟨u, rfl⟩, rfl⟩
          go_wp2_with fail
          go_roundw
          case rel => exact ⟨5, by simp, by omega, hfin.out, f2.out.set _ _, B2.out.setCell (by simp) _⟩
          case measure => simp [intOf]
    · have q0 := Blk.cell p0 25
      have q1 := Blk.cell p0 26
      have q2 := Blk.cell p0 27
      have q3 := Blk.cell p0 28
      have q4 := Blk.cell p0 29
      simp only [List.getElem?_toArray, List.getElem?_cons_succ, List.getElem?_cons_zero] at q0 q1 q2 q3 q4
      have h5 := Cap.cell0 p5
      have hcap := p5
      have G := Lib.hid (fun w h => get_5 b g5 w h)
      unfold Me.val at G
      rw [eb.out] at G
      unfold joinAt at hstep
      generalize getN 5 b = gn at *
      generalize getS 5 b = gt at *
      have hM' := Lib.hid hM
      clear p0 p1 p2 p3 p4 p5 p6 p7 hN2 hM a0 a1 a2 a3 a4 a5 a6 a7
      obtain ⟨pc, gpc⟩ : ∃ pc : Array Value, pc = #[.int .i64 6, .int .i64 2, .int .u64 0, .func (.func 45) #[] #[.pointer (some ⟨g5, 0, none⟩)], .func (.func 46) #[] #[.pointer (some ⟨g5, 0, none⟩)]] := ⟨_, rfl⟩
      have hx := capt (.cells pc 49) h5
      rw [gpc] at hx
      have hb0 := ext_alloc wr (.cells pc 49)
      have bx0 := Blk.new wr 49 pc
      rw [gpc] at hb0 bx0
      replace hb0 := Lib.hid hb0
      replace bx0 := Lib.hid bx0
      replace gpc := Lib.hid gpc
      go_wp2_with fail
      refine (G.out _ hx).mono ?_
      rintro e w2 ⟨rfl, b2⟩
      have bx := Blk.ext bx0.out b2
      have r4 := Blk.cell bx 4
      simp only [List.getElem?_toArray, List.getElem?_cons_succ, List.getElem?_cons_zero] at r4
      have e2 := Lib.hid (ext_trans hb0.out b2)
      have B2 := Lib.hid (hb1.out.trans (e2.out.mono hb1.out.size))
      have M2 := Blk.ext hM'.out e2.out
      have f2 := Lib.hid (hf.out.ext e2.out)
      obtain ⟨a0, a1, a2, a3, a4, a5, a6, a7⟩ := Blk.m8 M2
      have zz := M2.fz 5
      have hk2 := Cap.cell0 (Blk.ext hcap e2.out)
      replace M2 := Lib.hid M2
      clear bx b2 q0 q1 q2 q3 q4 h5 hx hcap c0 c1 c2 c3 c4 c5 c6 c7
      by_cases hz : gn = 0 ∧ gt.size = 0
      · rw [if_pos hz] at hstep
        obtain ⟨rfl, hz⟩ := hz
        obtain rfl := size0 hz
        replace hstep := Lib.hid hstep
        replace hz := Lib.hid hz
        go_wp2_with fail
        go_roundw
        case rel => exact ⟨6, by simp, by omega, by rw [hstep.out]; exact M2.out, f2.out, B2.out⟩
        case measure => simp [intOf]
      · rw [if_neg hz] at hstep
        have ht : (gn = 0 ∧ gt.size ≠ 0) ∨ gn ≠ 0 := by
          by_cases h : gn = 0
          · exact .inl ⟨h, fun h2 => hz ⟨h, h2⟩⟩
          · exact .inr h
        have hfin : Blk (w2.setCell ⟨w.heap.size, 5, none⟩ (.string gt)) w.heap.size 24 (joinK a b 6).cells := by
          rw [hstep, ← set_cells_5]; exact Blk.set M2.out 5 _
        have ST := Lib.hid (set_5 w.heap.size g5 gn gt w2 _ _ hk2 a0 a5 zz)
        replace hfin := Lib.hid hfin
        replace hstep := Lib.hid hstep
        clear hz
        rcases ht with ⟨rfl, ht⟩ | ht
        · have ht' := size1 ht
          replace ht := Lib.hid ht
          rw [Int.natCast_zero] at ST
          go_wp2_with fail
          refine ST.out.mono ?_
          rintro e w3 ⟨⟨u, rfl⟩, rfl⟩
          go_wp2_with fail
          go_roundw
          case rel => exact ⟨6, by simp, by omega, hfin.out, f2.out.set _ _, B2.out.setCell (by simp) _⟩
          case measure => simp [intOf]
        · have ht' : ((gn : Int) != 0) = true := by simpa using ht
          replace ht := Lib.hid ht
          go_wp2_with fail
          refine ST.out.mono ?_
          rintro e w3 ⟨⟨u, rfl⟩, rfl⟩
          go_wp2_with fail
          go_roundw
          case rel => exact ⟨6, by simp, by omega, hfin.out, f2.out.set _ _, B2.out.setCell (by simp) _⟩
          case measure => simp [intOf]
    · have q0 := Blk.cell p0 30
      have q1 := Blk.cell p0 31
      have q2 := Blk.cell p0 32
      have q3 := Blk.cell p0 33
      have q4 := Blk.cell p0 34
      simp only [List.getElem?_toArray, List.getElem?_cons_succ, List.getElem?_cons_zero] at q0 q1 q2 q3 q4
      have h6 := Cap.cell0 p6
      have hcap := p6
      have G := Lib.hid (fun w h => get_6 b g6 w h)
      unfold Me.val at G
      rw [eb.out] at G
      unfold joinAt at hstep
      generalize getN 6 b = gn at *
      generalize getS 6 b = gt at *
      have hM' := Lib.hid hM
      clear p0 p1 p2 p3 p4 p5 p6 p7 hN2 hM a0 a1 a2 a3 a4 a5 a6 a7
      obtain ⟨pc, gpc⟩ : ∃ pc : Array Value, pc = #[.int .i64 7, .int .i64 2, .int .u64 0, .func (.func 45) #[] #[.pointer (some ⟨g6, 0, none⟩)], .func (.func 46) #[] #[.pointer (some ⟨g6, 0, none⟩)]] := ⟨_, rfl⟩
      have hx := capt (.cells pc 49) h6
      rw [gpc] at hx
      have hb0 := ext_alloc wr (.cells pc 49)
      have bx0 := Blk.new wr 49 pc
      rw [gpc] at hb0 bx0
      replace hb0 := Lib.hid hb0
      replace bx0 := Lib.hid bx0
      replace gpc := Lib.hid gpc
      go_wp2_with fail
      refine (G.out _ hx).mono ?_
      rintro e w2 ⟨rfl, b2⟩
      have bx := Blk.ext bx0.out b2
      have r4 := Blk.cell bx 4
      simp only [List.getElem?_toArray, List.getElem?_cons_succ, List.getElem?_cons_zero] at r4
      have e2 := Lib.hid (ext_trans hb0.out b2)
      have B2 := Lib.hid (hb1.out.trans (e2.out.mono hb1.out.size))
      have M2 := Blk.ext hM'.out e2.out
      have f2 := Lib.hid (hf.out.ext e2.out)
      obtain ⟨a0, a1, a2, a3, a4, a5, a6, a7⟩ := Blk.m8 M2
      have zz := M2.fz 6
      have hk2 := Cap.cell0 (Blk.ext hcap e2.out)
      replace M2 := Lib.hid M2
      clear bx b2 q0 q1 q2 q3 q4 h6 hx hcap c0 c1 c2 c3 c4 c5 c6 c7
      by_cases hz : gn = 0 ∧ gt.size = 0
      · rw [if_pos hz] at hstep
        obtain ⟨rfl, hz⟩ := hz
        obtain rfl := size0 hz
        replace hstep := Lib.hid hstep
        replace hz := Lib.hid hz
        go_wp2_with fail
        go_roundw
        case rel => exact ⟨7, by simp, by omega, by rw [hstep.out]; exact M2.out, f2.out, B2.out⟩
        case measure => simp [intOf]
      · rw [if_neg hz] at hstep
        have ht : (gn = 0 ∧ gt.size ≠ 0) ∨ gn ≠ 0 := by
          by_cases h : gn = 0
          · exact .inl ⟨h, fun h2 => hz ⟨h, h2⟩⟩
          · exact .inr h
        have hfin : Blk (w2.setCell ⟨w.heap.size, 6, none⟩ (.string gt)) w.heap.size 24 (joinK a b 7).cells := by
          rw [hstep, ← set_cells_6]; exact Blk.set M2.out 6 _
        have ST := Lib.hid (set_6 w.heap.size g6 gn gt w2 _ _ hk2 a0 a6 zz)
        replace hfin := Lib.hid hfin
        replace hstep := Lib.hid hstep
        clear hz
        rcases ht with ⟨rfl, ht⟩ | ht
        · have ht' := size1 ht
          replace ht := Lib.hid ht
          rw [Int.natCast_zero] at ST
          go_wp2_with fail
          refine ST.out.mono ?_
          rintro e w3 ⟨⟨u, rfl⟩, rfl⟩
          go_wp2_with fail
          go_roundw
          case rel => exact ⟨7, by simp, by omega, hfin.out, f2.out.set _ _, B2.out.setCell (by simp) _⟩
          case measure => simp [intOf]
        · have ht' : ((gn : Int) != 0) = true := by simpa using ht
          replace ht := Lib.hid ht
          go_wp2_with fail
          refine ST.out.mono ?_
          rintro e w3 ⟨⟨u, rfl⟩, rfl⟩
          go_wp2_with fail
          go_roundw
          case rel => exact ⟨7, by simp, by omega, hfin.out, f2.out.set _ _, B2.out.setCell (by simp) _⟩
          case measure => simp [intOf]
    · have q0 := Blk.cell p0 35
      have q1 := Blk.cell p0 36
      have q2 := Blk.cell p0 37
      have q3 := Blk.cell p0 38
      have q4 := Blk.cell p0 39
      simp only [List.getElem?_toArray, List.getElem?_cons_succ, List.getElem?_cons_zero] at q0 q1 q2 q3 q4
      have h7 := Cap.cell0 p7
      have hcap := p7
      have G := Lib.hid (fun w h => get_7 b g7 w h)
      unfold Me.val at G
      rw [eb.out] at G
      unfold joinAt at hstep
      generalize getN 7 b = gn at *
      generalize getS 7 b = gt at *
      have hM' := Lib.hid hM
      clear p0 p1 p2 p3 p4 p5 p6 p7 hN2 hM a0 a1 a2 a3 a4 a5 a6 a7
      obtain ⟨pc, gpc⟩ : ∃ pc : Array Value, pc = #[.int .i64 8, .int .i64 2, .int .u64 0, .func (.func 45) #[] #[.pointer (some ⟨g7, 0, none⟩)], .func (.func 46) #[] #[.pointer (some ⟨g7, 0, none⟩)]] := ⟨_, rfl⟩
      have hx := capt (.cells pc 49) h7
      rw [gpc] at hx
      have hb0 := ext_alloc wr (.cells pc 49)
      have bx0 := Blk.new wr 49 pc
      rw [gpc] at hb0 bx0
      replace hb0 := Lib.hid hb0
      replace bx0 := Lib.hid bx0
      replace gpc := Lib.hid gpc
      go_wp2_with fail
      refine (G.out _ hx).mono ?_
      rintro e w2 ⟨rfl, b2⟩
      have bx := Blk.ext bx0.out b2
      have r4 := Blk.cell bx 4
      simp only [List.getElem?_toArray, List.getElem?_cons_succ, List.getElem?_cons_zero] at r4
      have e2 := Lib.hid (ext_trans hb0.out b2)
      have B2 := Lib.hid (hb1.out.trans (e2.out.mono hb1.out.size))
      have M2 := Blk.ext hM'.out e2.out
      have f2 := Lib.hid (hf.out.ext e2.out)
      obtain ⟨a0, a1, a2, a3, a4, a5, a6, a7⟩ := Blk.m8 M2
      have zz := M2.fz 7
      have hk2 := Cap.cell0 (Blk.ext hcap e2.out)
      replace M2 := Lib.hid M2
      clear bx b2 q0 q1 q2 q3 q4 h7 hx hcap c0 c1 c2 c3 c4 c5 c6 c7
      by_cases hz : gn = 0 ∧ gt.size = 0
      · rw [if_pos hz] at hstep
        obtain ⟨rfl, hz⟩ := hz
        obtain rfl := size0 hz
        replace hstep := Lib.hid hstep
        replace hz := Lib.hid hz
        go_wp2_with fail
        go_roundw
        case rel => exact ⟨8, by simp, by omega, by rw [hstep.out]; exact M2.out, f2.out, B2.out⟩
        case measure => simp [intOf]
      · rw [if_neg hz] at hstep
        have ht : (gn = 0 ∧ gt.size ≠ 0) ∨ gn ≠ 0 := by
          by_cases h : gn = 0
          · exact .inl ⟨h, fun h2 => hz ⟨h, h2⟩⟩
          · exact .inr h
        have hfin : Blk (w2.setCell ⟨w.heap.size, 7, none⟩ (.string gt)) w.heap.size 24 (joinK a b 8).cells := by
          rw [hstep, ← set_cells_7]; exact Blk.set M2.out 7 _
        have ST := Lib.hid (set_7 w.heap.size g7 gn gt w2 _ _ hk2 a0 a7 zz)
        replace hfin := Lib.hid hfin
        replace hstep := Lib.hid hstep
        clear hz
        rcases ht with ⟨rfl, ht⟩ | ht
        · have ht' := size1 ht
          replace ht := Lib.hid ht
          rw [Int.natCast_zero] at ST
          go_wp2_with fail
          refine ST.out.mono ?_
          rintro e w3 ⟨⟨u, rfl⟩, rfl⟩
          go_wp2_with fail
          go_roundw
          case rel => exact ⟨8, by simp, by omega, hfin.out, f2.out.set _ _, B2.out.setCell (by simp) _⟩
          case measure => simp [intOf]
        · have ht' : ((gn : Int) != 0) = true := by simpa using ht
          replace ht := Lib.hid ht
          go_wp2_with fail
          refine ST.out.mono ?_
          rintro e w3 ⟨⟨u, rfl⟩, rfl⟩
          go_wp2_with fail
          go_roundw
          case rel => exact ⟨8, by simp, by omega, hfin.out, f2.out.set _ _, B2.out.setCell (by simp) _⟩
          case measure => simp [intOf]
end Go.Proofs.Ytoglgdkeknojkaa

/-
  LAYER 6: Of, the program's.
-/
import Derived.Test.YtoglgdkeknojkaaMi
import Derived.Deep.Draws
namespace Go.Proofs.Ytoglgdkeknojkaa
open Go.RowKit

def inR (f : Fd) : Prop := 1 ≤ f.num ∧ f.num ≤ 536870911 ∧ f.val ≤ 18446744073709551615
theorem gN_le (l : List Nat) (k : Nat) (h : ∀ x ∈ l, x < 256) : gN l k ≤ 18446744073709551615 := by
  rcases getF_spec (l.drop k) 0 0 (fun x hx => h x (List.mem_of_mem_drop hx)) (by omega) (by decide) with ⟨h1, h2, h3, h4⟩ | ⟨h1, -⟩
  · exact h2
  · have : gN l k = 0 := h1
    omega
theorem vF_in (l : List Nat) (a n k : Nat) (h : ∀ x ∈ l, x < 256) (h1 : 1 ≤ n) (h2 : n ≤ 536870911) : inR (vF l a n k) := by
  have v8 := valF_lt l a h 8
  have v4 := valF_lt l a h 4
  have g := gN_le l a h
  refine ⟨by simp only [vF]; omega, by simp only [vF]; omega, ?_⟩
  simp only [vF]
  by_cases k0 : k = 0
  · rw [if_pos k0]; exact g
  rw [if_neg k0]
  by_cases k1 : k = 1
  · rw [if_pos k1]; omega
  rw [if_neg k1]
  by_cases k5 : k = 5
  · rw [if_pos k5]; omega
  rw [if_neg k5]; omega
theorem stepF_num {l : List Nat} {s s' : St} (h256 : ∀ x ∈ l, x < 256) (h : stepF l s = .ok s') (hs : ∀ f ∈ s.out, inR f) : ∀ f ∈ s'.out, inR f := by
  unfold stepF at h
  by_cases a1 : gE l s.place ≠ 0
  · rw [if_pos a1] at h; cases h
  rw [if_neg a1] at h
  by_cases a2 : gN l s.place / 8 < 1 ∨ 536870912 ≤ gN l s.place / 8
  · rw [if_pos a2] at h; cases h
  rw [if_neg a2] at h
  by_cases a3 : gN l s.place % 8 = 3
  · rw [if_pos a3] at h
    by_cases b : 8 ≤ s.op.length
    · rw [if_pos b] at h; cases h
    · rw [if_neg b] at h; cases h; exact hs
  rw [if_neg a3] at h
  by_cases a4 : gN l s.place % 8 = 4
  · rw [if_pos a4] at h
    by_cases b : s.op.getLast? ≠ some (gN l s.place / 8)
    · rw [if_pos b] at h; cases h
    · rw [if_neg b] at h; cases h; exact hs
  rw [if_neg a4] at h
  by_cases a5 : vE l (gAt l s.place) (gN l s.place % 8) ≠ 0
  · rw [if_pos a5] at h; cases h
  rw [if_neg a5] at h
  by_cases a6 : s.op ≠ []
  · rw [if_pos a6] at h; cases h; exact hs
  rw [if_neg a6] at h
  by_cases a7 : 256 ≤ s.out.length
  · rw [if_pos a7] at h; cases h
  rw [if_neg a7] at h
  cases h
  intro f hf
  rcases List.mem_append.1 hf with hf | hf
  · exact hs f hf
  · rw [List.mem_singleton.1 hf]
    exact vF_in l _ _ _ h256 (by omega) (by omega)
theorem ofF_num (l : List Nat) (h256 : ∀ x ∈ l, x < 256) : ∀ (n : Nat) (s : St), (∀ f ∈ s.out, inR f) → ∀ f ∈ (ofF l n s).1, inR f
  | 0, s, _ => by simp [ofF]
  | n + 1, s, h => by
    rw [ofF]
    by_cases a : l.length ≤ s.place
    · rw [if_pos a]
      by_cases b : s.op = []
      · rw [if_pos b]; exact h
      · rw [if_neg b]; simp
    · rw [if_neg a]
      cases e : stepF l s with
      | error x => simp
      | ok s' => exact ofF_num l h256 n s' (stepF_num h256 e h)
theorem ofR_num (l : List Nat) (h256 : ∀ x ∈ l, x < 256) : ∀ f ∈ (ofR l).1, inR f := by
  unfold ofR
  by_cases a : 4096 < l.length
  · rw [if_pos a]; simp
  · rw [if_neg a]; exact ofF_num l h256 _ _ (by simp)
/-- A meta of its fields. -/
def ofM : List Fd → Me → Me × Int
  | [], m => (m, 0)
  | f :: l, m => if 8 < f.num then ofM l m else if f.kind ≠ kindP (f.num - 1).toNat then (zeroM, 4) else if f.num = 1 ∧ 1 < f.val then (zeroM, 5) else ofM l (setP (f.num - 1).toNat m f.val f.text)
theorem ofM_skip {f : Fd} {l : List Fd} {m : Me} (h : 8 < f.num) : ofM (f :: l) m = ofM l m := by rw [ofM, if_pos h]
theorem ofM_form {f : Fd} {l : List Fd} {m : Me} (h : ¬ 8 < f.num) (hk : f.kind ≠ kindP (f.num - 1).toNat) : ofM (f :: l) m = (zeroM, 4) := by rw [ofM, if_neg h, if_pos hk]
theorem ofM_range {f : Fd} {l : List Fd} {m : Me} (h : ¬ 8 < f.num) (hk : f.kind = kindP (f.num - 1).toNat) (hv : f.num = 1 ∧ 1 < f.val) : ofM (f :: l) m = (zeroM, 5) := by rw [ofM, if_neg h, if_neg (by simpa using hk), if_pos hv]
theorem ofM_take {f : Fd} {l : List Fd} {m : Me} (h : ¬ 8 < f.num) (hk : f.kind = kindP (f.num - 1).toNat) (hv : ¬ (f.num = 1 ∧ 1 < f.val)) : ofM (f :: l) m = ofM l (setP (f.num - 1).toNat m f.val f.text) := by rw [ofM, if_neg h, if_neg (by simpa using hk), if_neg hv]
/-- What a meta's Of answers. -/
def ofMR (b : List Nat) : Me × Int := if (ofR b).2 ≠ 0 then (zeroM, ((ofR b).2 : Nat)) else ofM (ofR b).1 zeroM
def OfM (r : Me × Int) (w : World) (e : Ending) (w' : World) : Prop := e = .returned (.tuple #[r.1.val, .int .i64 r.2]) ∧ Below w.heap.size w w'
theorem mdrop_at {l : List Fd} {k : Nat} {f : Fd} (h : l[k]? = some f) : l.drop k = f :: l.drop (k + 1) := by
  obtain ⟨hlt, he⟩ := List.getElem?_eq_some_iff.1 h
  rw [List.drop_eq_getElem_cons hlt, he]
theorem zM : zeroM.cells = #[.bool false, .string ⟨#[]⟩, .int .u64 0, .int .u64 0, .string ⟨#[]⟩, .string ⟨#[]⟩, .string ⟨#[]⟩, .string ⟨#[]⟩] := rfl
theorem FarFrom.range {r b o : Nat} {w1 w : World} {cs : List Value} (h : FarFrom r w1 w) (hb : b < w1.heap.size) (hr : b ≠ r) (hc : w1.rangeAt b o cs) : w.rangeAt b o cs := fun j v hj => by
  have e := h.2 b hb hr
  have := hc j v hj
  unfold World.cell? at this ⊢
  simp only [e] at this ⊢
  exact this
theorem setC8 {B : Nat} {w w' : World} (h : Below B w w') {g : Nat} (hg : B ≤ g) (v0 v1 v2 v3 v4 v5 v6 v7 : Value) :
    Below B w ((((((((w'.setCell ⟨g, 0, none⟩ v0).setCell ⟨g, 1, none⟩ v1).setCell ⟨g, 2, none⟩ v2).setCell ⟨g, 3, none⟩ v3).setCell ⟨g, 4, none⟩ v4).setCell ⟨g, 5, none⟩ v5).setCell ⟨g, 6, none⟩ v6).setCell ⟨g, 7, none⟩ v7) :=
  (((((((h.setCell hg _).setCell hg _).setCell hg _).setCell hg _).setCell hg _).setCell hg _).setCell hg _).setCell hg _
theorem kindP_k : kindP 0 = 0 ∧ kindP 1 = 2 ∧ kindP 2 = 0 ∧ kindP 3 = 0 ∧ kindP 4 = 2 ∧ kindP 5 = 2 ∧ kindP 6 = 2 ∧ kindP 7 = 2 := by decide
set_option maxHeartbeats 8000000 in
set_option maxRecDepth 100000 in
theorem mof12_any (v : Value) (l : List Nat) (w : World) (hS : Src w v l) (h256 : ∀ x ∈ l, x < 256) (hl : l.length ≤ 140737488355328) : Calls Try.prog 12 #[v] w (OfM (ofMR l) w) := by
  have hA := Lib.hid (ext_alloc w (.cells zeroM.cells 24))
  have hZ := Lib.hid (Blk.new w 24 zeroM.cells)
  have O := of_any v l _ (hS.keep hA.out (Nat.le_refl _)) h256 hl
  have hnum := ofR_num l h256
  have hle := ofR_le l
  unfold ofMR
  rw [zM] at O
  obtain ⟨a, cap, rfl, -⟩ := hS
  generalize ofR l = R at *
  obtain ⟨L, E⟩ := R
  simp only at hnum hle ⊢
  replace hnum := Lib.hid hnum
  replace h256 := Lib.hid h256
  have hle' : (L.length : Int) ≤ 256 := by omega
  by_cases hE : E ≠ 0
  · rw [if_pos hE]
    have hd : ((E : Int) != 0) = true := by simpa using hE
    replace O := Lib.hid O
    replace hE := Lib.hid hE
    go_enter Try.func12, Try.ntmps12
    go_wp2_with fail
    refine O.out.mono ?_
    rintro e w1 ⟨v1, rfl, -, b1⟩
    rw [← zM] at b1
    have hZ1 := Blk.ext hZ.out b1
    rw [zM] at hZ1
    obtain ⟨y0, y1, y2, y3, y4, y5, y6, y7⟩ := box8b hZ1
    have z0 := hZ1.fz 0
    have z1 := hZ1.fz 1
    have z2 := hZ1.fz 2
    have z3 := hZ1.fz 3
    have z4 := hZ1.fz 4
    have z5 := hZ1.fz 5
    have z6 := hZ1.fz 6
    have z7 := hZ1.fz 7
    have B1 := Lib.hid (ext_trans hA.out b1)
    clear hZ1 b1
    go_wp2_with fail
    exact bodyPost_ret (v := .tuple #[zeroM.val, .int .i64 E]) (by simp [results, Try.results12, go_sem, Me.val, zM, y0, y1, y2, y3, y4, y5, y6, y7]) rfl ⟨rfl, setC8 B1.out (Nat.le_refl _) _ _ _ _ _ _ _ _⟩
  replace hE := Decidable.not_not.1 hE
  subst hE
  rw [if_neg (by simp)]
  replace O := Lib.hid O
  go_enter Try.func12, Try.ntmps12
  go_wp2_with fail
  refine O.out.mono ?_
  rintro e w1 ⟨v1, rfl, hF, b1⟩
  rw [← zM] at b1
  have hZ1 := Lib.hid (Blk.ext hZ.out b1)
  have B1 := Lib.hid (ext_trans hA.out b1)
  obtain ⟨la, lc, rfl, -, hc⟩ := hF
  replace hc := Lib.hid hc
  clear b1
  go_wp2_with fail
  refine (parts_any _).mono ?_
  rintro e w2 ⟨pb, g1, g2, g3, g4, g5, g6, g7, rfl, hP, b2⟩
  have hZ2 := Lib.hid (Blk.ext hZ1.out b2)
  have B2 := Lib.hid (ext_trans B1.out b2)
  have lt1 : w1.heap.size ≤ w2.heap.size := b2.size
  have ltz : w.heap.size < w2.heap.size := Blk.lt hZ2.out
  have hc2 : ∀ b o, b < w1.heap.size → ∀ cs, w1.rangeAt b o cs → (w2.alloc (.cells zeroM.cells 24)).rangeAt b o cs := fun b o hb cs hr => rangeAt_keep (rangeAt_keep hr b2 hb) (ext_alloc w2 _) (Nat.lt_of_lt_of_le hb lt1)
  replace hc2 := Lib.hid hc2
  have hP3 := Lib.hid (hP.keep (ext_alloc w2 (.cells zeroM.cells 24)))
  have hZ3 := Lib.hid (Blk.alloc hZ2.out (.cells zeroM.cells 24))
  have hM3 := Lib.hid (Blk.new w2 24 zeroM.cells)
  have B3 := Lib.hid (B2.out.trans ((ext_alloc w2 (.cells zeroM.cells 24)).mono B2.out.size))
  clear b2 hP
  go_wp2_with fail
  go_loopw [23] (fun i wr => ∃ (k : Nat) (m : Me), i = .int .i64 k ∧ k ≤ L.length ∧ Blk wr w2.heap.size 24 m.cells ∧ FarFrom w2.heap.size (w2.alloc (.cells zeroM.cells 24)) wr ∧ ofM (L.drop k) m = ofM L zeroM ∧ Below w.heap.size w wr) (fun i _ => L.length - (intOf i).toNat)
  case atStart => exact ⟨0, zeroM, rfl, by omega, hM3.out, FarFrom.refl _ _, rfl, B3.out⟩
  case round =>
    obtain ⟨k, m, rfl, hk, hM, hf, hrec, hb1⟩ := hrel
    have hN3 := hf.blk' hZ3.out (Nat.ne_of_lt ltz)
    obtain ⟨p0, p1, p2, p3, p4, p5, p6, p7⟩ := hf.parts hP3.out hM3.out
    have ltM : w2.heap.size < wr.heap.size := Blk.lt hM
    have ltO : w.heap.size < wr.heap.size := Blk.lt hN3
    obtain ⟨a0, a1, a2, a3, a4, a5, a6, a7⟩ := Blk.m8 hM
    rw [zM] at hN3
    have z0 := hN3.fz 0
    have z1 := hN3.fz 1
    have z2 := hN3.fz 2
    have z3 := hN3.fz 3
    have z4 := hN3.fz 4
    have z5 := hN3.fz 5
    have z6 := hN3.fz 6
    have z7 := hN3.fz 7
    obtain ⟨y0, y1, y2, y3, y4, y5, y6, y7⟩ := box8b hN3
    replace hb1 := Lib.hid hb1
    replace hf := Lib.hid hf
    replace hM := Lib.hid hM
    clear hN3
    by_cases hend : k = L.length
    · subst hend
      rw [List.drop_length, ofM] at hrec
      replace hrec := Lib.hid hrec
      clear p0 p1 p2 p3 p4 p5 p6 p7
      go_wp2_with fail
      exact bodyPost_ret (v := .tuple #[m.val, .int .i64 0]) (by simp [results, Try.results12, go_sem, Me.val, Me.cells, y0, y1, y2, y3, y4, y5, y6, y7]) rfl ⟨by rw [← hrec.out], setC8 hb1.out (Nat.le_refl _) _ _ _ _ _ _ _ _⟩
    obtain ⟨f, hfk⟩ : ∃ f, L[k]? = some f := ⟨_, List.getElem?_eq_getElem (by omega)⟩
    obtain ⟨b, o, rfl, hbl, hcell⟩ : ∃ b o, la = some ⟨b, o, none⟩ ∧ b < w1.heap.size ∧ w1.rangeAt b (o + k * 4) f.cells := by
      rcases hc.out with h | ⟨b, o, ha, hb, hc⟩
      · subst h; simp at hfk
      · exact ⟨b, o, ha, hb, hc k f hfk⟩
    have hr := hf.out.range (by have := (ext_alloc w2 (.cells zeroM.cells 24)).size; omega) (by omega) (hc2.out b _ hbl _ hcell)
    obtain ⟨q0, q1, q2, q3⟩ := rangeAt4 hr
    clear hr hcell
    obtain ⟨n1, n2, fvle⟩ := hnum.out f (List.mem_of_getElem? hfk)
    rw [mdrop_at hfk] at hrec
    replace hfk := Lib.hid hfk
    have klt : (k : Int) < (L.length : Int) := by omega
    obtain ⟨fn, fk, fv, ft⟩ := f
    simp only at q0 q1 q2 q3 n1 n2 fvle
    by_cases h8 : 8 < fn
    · rw [ofM_skip h8] at hrec
      replace hrec := Lib.hid hrec
      clear p0 p1 p2 p3 p4 p5 p6 p7 a0 a1 a2 a3 a4 a5 a6 a7 y0 y1 y2 y3 y4 y5 y6 y7 z0 z1 z2 z3 z4 z5 z6 z7
      go_wp2_with fail
      go_roundw
      case rel => exact ⟨k + 1, m, by simp, by omega, Blk.alloc hM.out _, hf.out.ext (ext_alloc _ _), hrec.out, hb1.out.alloc hb1.out.size _⟩
      case measure => simp [intOf]; omega
    have hi : fn = 1 ∨ fn = 2 ∨ fn = 3 ∨ fn = 4 ∨ fn = 5 ∨ fn = 6 ∨ fn = 7 ∨ fn = 8 := by omega
    have bx0 := Lib.hid (Blk.new wr 41 #[.int .i64 fn, .int .i64 fk, .int .u64 (fv : Nat), .string ft])
    clear n1 n2
    rcases hi with rfl | rfl | rfl | rfl | rfl | rfl | rfl | rfl
    · have ltP : pb < wr.heap.size := Blk.lt p0
      have r0 := Blk.cell p0 0
      have r1 := Blk.cell p0 1
      have r2 := Blk.cell p0 2
      have r3 := Blk.cell p0 3
      have r4 := Blk.cell p0 4
      simp only [List.getElem?_toArray, List.getElem?_cons_succ, List.getElem?_cons_zero] at r0 r1 r2 r3 r4
      clear p0 p1 p2 p3 p4 p5 p6 p7 h8
      by_cases hk : fk = 0
      · subst hk
        by_cases hv : 1 < fv
        · have hd : decide ((1 : Int) < (fv : Int)) = true := decide_eq_true (by omega)
          rw [ofM_range (by simp only; omega) rfl ⟨rfl, hv⟩] at hrec
          replace hrec := Lib.hid hrec
          clear a0 a1 a2 a3 a4 a5 a6 a7
          go_wp2_with fail
          exact bodyPost_ret (v := .tuple #[zeroM.val, .int .i64 5]) (by simp [results, Try.results12, go_sem, Me.val, zM, y0, y1, y2, y3, y4, y5, y6, y7, ltO, Nat.lt_succ_of_lt ltO]) rfl ⟨by rw [← hrec.out], ((setC8 hb1.out (Nat.le_refl _) _ _ _ _ _ _ _ _).alloc (by simp; omega) _).alloc (by simp; omega) _⟩
        · have hd : decide ((1 : Int) < (fv : Int)) = false := decide_eq_false (by omega)
          rw [ofM_take (by simp only; omega) rfl (by simp only; omega)] at hrec
          have hrec' : ofM (L.drop (k + 1)) (setP 0 m fv ft) = ofM L zeroM := hrec
          have hfin : Blk (((wr.setCell ⟨w2.heap.size, 0, none⟩ (.bool ((fv : Int) == 1))).alloc (.cells #[.int .i64 1, .int .i64 0, .int .u64 (fv : Nat), .string ft] 41)).alloc (.cells #[.int .i64 1, .int .i64 0, .int .u64 1, .func (.func 24) #[] #[], .func (.func 25) #[] #[]] 49)) w2.heap.size 24 (setP 0 m fv ft).cells := by
            rw [← set_cells_0]; exact Blk.alloc (Blk.alloc (Blk.set hM.out 0 _) _) _
          have ff := Lib.hid (((hf.out.set 0 (.bool ((fv : Int) == 1))).ext (ext_alloc _ (.cells #[.int .i64 1, .int .i64 0, .int .u64 (fv : Nat), .string ft] 41))).ext (ext_alloc _ (.cells #[.int .i64 1, .int .i64 0, .int .u64 1, .func (.func 24) #[] #[], .func (.func 25) #[] #[]] 49)))
          have B5 := Lib.hid (((hb1.out.setCell (p := ⟨w2.heap.size, 0, none⟩) (by simp; omega) (.bool ((fv : Int) == 1))).alloc (by simp; omega) (.cells #[.int .i64 1, .int .i64 0, .int .u64 (fv : Nat), .string ft] 41)).alloc (by simp; omega) (.cells #[.int .i64 1, .int .i64 0, .int .u64 1, .func (.func 24) #[] #[], .func (.func 25) #[] #[]] 49))
          have M5 := Blk.alloc (Blk.alloc hM.out (.cells #[.int .i64 1, .int .i64 0, .int .u64 (fv : Nat), .string ft] 41)) (.cells #[.int .i64 1, .int .i64 0, .int .u64 1, .func (.func 24) #[] #[], .func (.func 25) #[] #[]] 49)
          obtain ⟨u0, u1, u2, u3, u4, u5, u6, u7⟩ := Blk.m8 M5
          have ST := Lib.hid (set_0 w2.heap.size fv ft _ _ u0 (Blk.fz M5 0) _ rfl)
          replace hrec := Lib.hid hrec'
          replace hfin := Lib.hid hfin
          clear hrec' M5 u0 u1 u2 u3 u4 u5 u6 u7 a0 a1 a2 a3 a4 a5 a6 a7 y0 y1 y2 y3 y4 y5 y6 y7 z0 z1 z2 z3 z4 z5 z6 z7
          go_wp2_with fail
          refine ST.out.mono ?_
          rintro e w3 ⟨⟨u, rfl⟩, rfl⟩
          go_wp2_with fail
          go_roundw
          case rel => exact ⟨k + 1, _, by simp, by omega, hfin.out, ff.out, hrec.out, B5.out⟩
          case measure => simp [intOf]; omega
      · have hd : (fk != 0) = true := by simpa using hk
        rw [ofM_form (by simp only; omega) (fun h => hk (h.trans rfl))] at hrec
        replace hrec := Lib.hid hrec
        clear a0 a1 a2 a3 a4 a5 a6 a7
        go_wp2_with fail
        exact bodyPost_ret (v := .tuple #[zeroM.val, .int .i64 4]) (by simp [results, Try.results12, go_sem, Me.val, zM, y0, y1, y2, y3, y4, y5, y6, y7, ltO, Nat.lt_succ_of_lt ltO]) rfl ⟨by rw [← hrec.out], ((setC8 hb1.out (Nat.le_refl _) _ _ _ _ _ _ _ _).alloc (by simp; omega) _).alloc (by simp; omega) _⟩
    · have ltP : pb < wr.heap.size := Blk.lt p0
      have r0 := Blk.cell p0 5
      have r1 := Blk.cell p0 6
      have r2 := Blk.cell p0 7
      have r3 := Blk.cell p0 8
      have r4 := Blk.cell p0 9
      simp only [List.getElem?_toArray, List.getElem?_cons_succ, List.getElem?_cons_zero] at r0 r1 r2 r3 r4
      have hcap := Lib.hid p1
      clear p0 p1 p2 p3 p4 p5 p6 p7 h8
      by_cases hk : fk = 2
      · subst hk
        rw [ofM_take (by simp only; omega) rfl (by simp only; omega)] at hrec
        have hrec' : ofM (L.drop (k + 1)) (setP 1 m fv ft) = ofM L zeroM := hrec
        have hfin : Blk (((wr.setCell ⟨w2.heap.size, 1, none⟩ (.string ft)).alloc (.cells #[.int .i64 2, .int .i64 2, .int .u64 (fv : Nat), .string ft] 41)).alloc (.cells #[.int .i64 2, .int .i64 2, .int .u64 0, .func (.func 45) #[] #[.pointer (some ⟨g1, 0, none⟩)], .func (.func 46) #[] #[.pointer (some ⟨g1, 0, none⟩)]] 49)) w2.heap.size 24 (setP 1 m fv ft).cells := by
          rw [← set_cells_1]; exact Blk.alloc (Blk.alloc (Blk.set hM.out 1 _) _) _
        have ff := Lib.hid (((hf.out.set 1 (.string ft)).ext (ext_alloc _ (.cells #[.int .i64 2, .int .i64 2, .int .u64 (fv : Nat), .string ft] 41))).ext (ext_alloc _ (.cells #[.int .i64 2, .int .i64 2, .int .u64 0, .func (.func 45) #[] #[.pointer (some ⟨g1, 0, none⟩)], .func (.func 46) #[] #[.pointer (some ⟨g1, 0, none⟩)]] 49)))
        have B5 := Lib.hid (((hb1.out.setCell (p := ⟨w2.heap.size, 1, none⟩) (by simp; omega) (.string ft)).alloc (by simp; omega) (.cells #[.int .i64 2, .int .i64 2, .int .u64 (fv : Nat), .string ft] 41)).alloc (by simp; omega) (.cells #[.int .i64 2, .int .i64 2, .int .u64 0, .func (.func 45) #[] #[.pointer (some ⟨g1, 0, none⟩)], .func (.func 46) #[] #[.pointer (some ⟨g1, 0, none⟩)]] 49))
        have M5 := Blk.alloc (Blk.alloc hM.out (.cells #[.int .i64 2, .int .i64 2, .int .u64 (fv : Nat), .string ft] 41)) (.cells #[.int .i64 2, .int .i64 2, .int .u64 0, .func (.func 45) #[] #[.pointer (some ⟨g1, 0, none⟩)], .func (.func 46) #[] #[.pointer (some ⟨g1, 0, none⟩)]] 49)
        obtain ⟨u0, u1, u2, u3, u4, u5, u6, u7⟩ := Blk.m8 M5
        have ST := Lib.hid (set_1 w2.heap.size g1 fv ft _ _ _ (Cap.cell0 (Blk.alloc (Blk.alloc hcap.out _) _)) u0 u1 (Blk.fz M5 1))
        replace hrec := Lib.hid hrec'
        replace hfin := Lib.hid hfin
        clear hrec' M5 u0 u1 u2 u3 u4 u5 u6 u7 a0 a1 a2 a3 a4 a5 a6 a7 y0 y1 y2 y3 y4 y5 y6 y7 z0 z1 z2 z3 z4 z5 z6 z7
        go_wp2_with fail
        refine ST.out.mono ?_
        rintro e w3 ⟨⟨u, rfl⟩, rfl⟩
        go_wp2_with fail
        go_roundw
        case rel => exact ⟨k + 1, _, by simp, by omega, hfin.out, ff.out, hrec.out, B5.out⟩
        case measure => simp [intOf]; omega
      · have hd : (fk != 2) = true := by simpa using hk
        rw [ofM_form (by simp only; omega) (fun h => hk (h.trans rfl))] at hrec
        replace hrec := Lib.hid hrec
        clear a0 a1 a2 a3 a4 a5 a6 a7
        go_wp2_with fail
        exact bodyPost_ret (v := .tuple #[zeroM.val, .int .i64 4]) (by simp [results, Try.results12, go_sem, Me.val, zM, y0, y1, y2, y3, y4, y5, y6, y7, ltO, Nat.lt_succ_of_lt ltO]) rfl ⟨by rw [← hrec.out], ((setC8 hb1.out (Nat.le_refl _) _ _ _ _ _ _ _ _).alloc (by simp; omega) _).alloc (by simp; omega) _⟩
    · have ltP : pb < wr.heap.size := Blk.lt p0
      have r0 := Blk.cell p0 10
      have r1 := Blk.cell p0 11
      have r2 := Blk.cell p0 12
      have r3 := Blk.cell p0 13
      have r4 := Blk.cell p0 14
      simp only [List.getElem?_toArray, List.getElem?_cons_succ, List.getElem?_cons_zero] at r0 r1 r2 r3 r4
      have hcap := Lib.hid p2
      clear p0 p1 p2 p3 p4 p5 p6 p7 h8
      by_cases hk : fk = 0
      · subst hk
        have hd : decide ((18446744073709551615 : Int) < (fv : Int)) = false := decide_eq_false (by have := fvle; omega)
        rw [ofM_take (by simp only; omega) rfl (by simp only; omega)] at hrec
        have hrec' : ofM (L.drop (k + 1)) (setP 2 m fv ft) = ofM L zeroM := hrec
        have hfin : Blk (((wr.setCell ⟨w2.heap.size, 2, none⟩ (.int .u64 (fv : Nat))).alloc (.cells #[.int .i64 3, .int .i64 0, .int .u64 (fv : Nat), .string ft] 41)).alloc (.cells #[.int .i64 3, .int .i64 0, .int .u64 18446744073709551615, .func (.func 47) #[] #[.pointer (some ⟨g2, 0, none⟩)], .func (.func 48) #[] #[.pointer (some ⟨g2, 0, none⟩)]] 49)) w2.heap.size 24 (setP 2 m fv ft).cells := by
          rw [← set_cells_2]; exact Blk.alloc (Blk.alloc (Blk.set hM.out 2 _) _) _
        have ff := Lib.hid (((hf.out.set 2 (.int .u64 (fv : Nat))).ext (ext_alloc _ (.cells #[.int .i64 3, .int .i64 0, .int .u64 (fv : Nat), .string ft] 41))).ext (ext_alloc _ (.cells #[.int .i64 3, .int .i64 0, .int .u64 18446744073709551615, .func (.func 47) #[] #[.pointer (some ⟨g2, 0, none⟩)], .func (.func 48) #[] #[.pointer (some ⟨g2, 0, none⟩)]] 49)))
        have B5 := Lib.hid (((hb1.out.setCell (p := ⟨w2.heap.size, 2, none⟩) (by simp; omega) (.int .u64 (fv : Nat))).alloc (by simp; omega) (.cells #[.int .i64 3, .int .i64 0, .int .u64 (fv : Nat), .string ft] 41)).alloc (by simp; omega) (.cells #[.int .i64 3, .int .i64 0, .int .u64 18446744073709551615, .func (.func 47) #[] #[.pointer (some ⟨g2, 0, none⟩)], .func (.func 48) #[] #[.pointer (some ⟨g2, 0, none⟩)]] 49))
        have M5 := Blk.alloc (Blk.alloc hM.out (.cells #[.int .i64 3, .int .i64 0, .int .u64 (fv : Nat), .string ft] 41)) (.cells #[.int .i64 3, .int .i64 0, .int .u64 18446744073709551615, .func (.func 47) #[] #[.pointer (some ⟨g2, 0, none⟩)], .func (.func 48) #[] #[.pointer (some ⟨g2, 0, none⟩)]] 49)
        obtain ⟨u0, u1, u2, u3, u4, u5, u6, u7⟩ := Blk.m8 M5
        have ST := Lib.hid (set_2 w2.heap.size g2 fv ft _ _ _ (Cap.cell0 (Blk.alloc (Blk.alloc hcap.out _) _)) u0 u2 (Blk.fz M5 2))
        replace hrec := Lib.hid hrec'
        replace hfin := Lib.hid hfin
        clear hrec' M5 u0 u1 u2 u3 u4 u5 u6 u7 a0 a1 a2 a3 a4 a5 a6 a7 y0 y1 y2 y3 y4 y5 y6 y7 z0 z1 z2 z3 z4 z5 z6 z7
        go_wp2_with fail
        refine ST.out.mono ?_
        rintro e w3 ⟨⟨u, rfl⟩, rfl⟩
        go_wp2_with fail
        go_roundw
        case rel => exact ⟨k + 1, _, by simp, by omega, hfin.out, ff.out, hrec.out, B5.out⟩
        case measure => simp [intOf]; omega
      · have hd : (fk != 0) = true := by simpa using hk
        rw [ofM_form (by simp only; omega) (fun h => hk (h.trans rfl))] at hrec
        replace hrec := Lib.hid hrec
        clear a0 a1 a2 a3 a4 a5 a6 a7
        go_wp2_with fail
        exact bodyPost_ret (v := .tuple #[zeroM.val, .int .i64 4]) (by simp [results, Try.results12, go_sem, Me.val, zM, y0, y1, y2, y3, y4, y5, y6, y7, ltO, Nat.lt_succ_of_lt ltO]) rfl ⟨by rw [← hrec.out], ((setC8 hb1.out (Nat.le_refl _) _ _ _ _ _ _ _ _).alloc (by simp; omega) _).alloc (by simp; omega) _⟩
    · have ltP : pb < wr.heap.size := Blk.lt p0
      have r0 := Blk.cell p0 15
      have r1 := Blk.cell p0 16
      have r2 := Blk.cell p0 17
      have r3 := Blk.cell p0 18
      have r4 := Blk.cell p0 19
      simp only [List.getElem?_toArray, List.getElem?_cons_succ, List.getElem?_cons_zero] at r0 r1 r2 r3 r4
      have hcap := Lib.hid p3
      clear p0 p1 p2 p3 p4 p5 p6 p7 h8
      by_cases hk : fk = 0
      · subst hk
        have hd : decide ((18446744073709551615 : Int) < (fv : Int)) = false := decide_eq_false (by have := fvle; omega)
        rw [ofM_take (by simp only; omega) rfl (by simp only; omega)] at hrec
        have hrec' : ofM (L.drop (k + 1)) (setP 3 m fv ft) = ofM L zeroM := hrec
        have hfin : Blk (((wr.setCell ⟨w2.heap.size, 3, none⟩ (.int .u64 (fv : Nat))).alloc (.cells #[.int .i64 4, .int .i64 0, .int .u64 (fv : Nat), .string ft] 41)).alloc (.cells #[.int .i64 4, .int .i64 0, .int .u64 18446744073709551615, .func (.func 47) #[] #[.pointer (some ⟨g3, 0, none⟩)], .func (.func 48) #[] #[.pointer (some ⟨g3, 0, none⟩)]] 49)) w2.heap.size 24 (setP 3 m fv ft).cells := by
          rw [← set_cells_3]; exact Blk.alloc (Blk.alloc (Blk.set hM.out 3 _) _) _
        have ff := Lib.hid (((hf.out.set 3 (.int .u64 (fv : Nat))).ext (ext_alloc _ (.cells #[.int .i64 4, .int .i64 0, .int .u64 (fv : Nat), .string ft] 41))).ext (ext_alloc _ (.cells #[.int .i64 4, .int .i64 0, .int .u64 18446744073709551615, .func (.func 47) #[] #[.pointer (some ⟨g3, 0, none⟩)], .func (.func 48) #[] #[.pointer (some ⟨g3, 0, none⟩)]] 49)))
        have B5 := Lib.hid (((hb1.out.setCell (p := ⟨w2.heap.size, 3, none⟩) (by simp; omega) (.int .u64 (fv : Nat))).alloc (by simp; omega) (.cells #[.int .i64 4, .int .i64 0, .int .u64 (fv : Nat), .string ft] 41)).alloc (by simp; omega) (.cells #[.int .i64 4, .int .i64 0, .int .u64 18446744073709551615, .func (.func 47) #[] #[.pointer (some ⟨g3, 0, none⟩)], .func (.func 48) #[] #[.pointer (some ⟨g3, 0, none⟩)]] 49))
        have M5 := Blk.alloc (Blk.alloc hM.out (.cells #[.int .i64 4, .int .i64 0, .int .u64 (fv : Nat), .string ft] 41)) (.cells #[.int .i64 4, .int .i64 0, .int .u64 18446744073709551615, .func (.func 47) #[] #[.pointer (some ⟨g3, 0, none⟩)], .func (.func 48) #[] #[.pointer (some ⟨g3, 0, none⟩)]] 49)
        obtain ⟨u0, u1, u2, u3, u4, u5, u6, u7⟩ := Blk.m8 M5
        have ST := Lib.hid (set_3 w2.heap.size g3 fv ft _ _ _ (Cap.cell0 (Blk.alloc (Blk.alloc hcap.out _) _)) u0 u3 (Blk.fz M5 3))
        replace hrec := Lib.hid hrec'
        replace hfin := Lib.hid hfin
        clear hrec' M5 u0 u1 u2 u3 u4 u5 u6 u7 a0 a1 a2 a3 a4 a5 a6 a7 y0 y1 y2 y3 y4 y5 y6 y7 z0 z1 z2 z3 z4 z5 z6 z7
        go_wp2_with fail
        refine ST.out.mono ?_
        rintro e w3 ⟨⟨u, rfl⟩, rfl⟩
        go_wp2_with fail
        go_roundw
        case rel => exact ⟨k + 1, _, by simp, by omega, hfin.out, ff.out, hrec.out, B5.out⟩
        case measure => simp [intOf]; omega
      · have hd : (fk != 0) = true := by simpa using hk
        rw [ofM_form (by simp only; omega) (fun h => hk (h.trans rfl))] at hrec
        replace hrec := Lib.hid hrec
        clear a0 a1 a2 a3 a4 a5 a6 a7
        go_wp2_with fail
        exact bodyPost_ret (v := .tuple #[zeroM.val, .int .i64 4]) (by simp [results, Try.results12, go_sem, Me.val, zM, y0, y1, y2, y3, y4, y5, y6, y7, ltO, Nat.lt_succ_of_lt ltO]) rfl ⟨by rw [← hrec.out], ((setC8 hb1.out (Nat.le_refl _) _ _ _ _ _ _ _ _).alloc (by simp; omega) _).alloc (by simp; omega) _⟩
    · have ltP : pb < wr.heap.size := Blk.lt p0
      have r0 := Blk.cell p0 20
      have r1 := Blk.cell p0 21
      have r2 := Blk.cell p0 22
      have r3 := Blk.cell p0 23
      have r4 := Blk.cell p0 24
      simp only [List.getElem?_toArray, List.getElem?_cons_succ, List.getElem?_cons_zero] at r0 r1 r2 r3 r4
      have hcap := Lib.hid p4
      clear p0 p1 p2 p3 p4 p5 p6 p7 h8
      by_cases hk : fk = 2
      · subst hk
        rw [ofM_take (by simp only; omega) rfl (by simp only; omega)] at hrec
        have hrec' : ofM (L.drop (k + 1)) (setP 4 m fv ft) = ofM L zeroM := hrec
        have hfin : Blk (((wr.setCell ⟨w2.heap.size, 4, none⟩ (.string ft)).alloc (.cells #[.int .i64 5, .int .i64 2, .int .u64 (fv : Nat), .string ft] 41)).alloc (.cells #[.int .i64 5, .int .i64 2, .int .u64 0, .func (.func 45) #[] #[.pointer (some ⟨g4, 0, none⟩)], .func (.func 46) #[] #[.pointer (some ⟨g4, 0, none⟩)]] 49)) w2.heap.size 24 (setP 4 m fv ft).cells := by
          rw [← set_cells_4]; exact Blk.alloc (Blk.alloc (Blk.set hM.out 4 _) _) _
        have ff := Lib.hid (((hf.out.set 4 (.string ft)).ext (ext_alloc _ (.cells #[.int .i64 5, .int .i64 2, .int .u64 (fv : Nat), .string ft] 41))).ext (ext_alloc _ (.cells #[.int .i64 5, .int .i64 2, .int .u64 0, .func (.func 45) #[] #[.pointer (some ⟨g4, 0, none⟩)], .func (.func 46) #[] #[.pointer (some ⟨g4, 0, none⟩)]] 49)))
        have B5 := Lib.hid (((hb1.out.setCell (p := ⟨w2.heap.size, 4, none⟩) (by simp; omega) (.string ft)).alloc (by simp; omega) (.cells #[.int .i64 5, .int .i64 2, .int .u64 (fv : Nat), .string ft] 41)).alloc (by simp; omega) (.cells #[.int .i64 5, .int .i64 2, .int .u64 0, .func (.func 45) #[] #[.pointer (some ⟨g4, 0, none⟩)], .func (.func 46) #[] #[.pointer (some ⟨g4, 0, none⟩)]] 49))
        have M5 := Blk.alloc (Blk.alloc hM.out (.cells #[.int .i64 5, .int .i64 2, .int .u64 (fv : Nat), .string ft] 41)) (.cells #[.int .i64 5, .int .i64 2, .int .u64 0, .func (.func 45) #[] #[.pointer (some ⟨g4, 0, none⟩)], .func (.func 46) #[] #[.pointer (some ⟨g4, 0, none⟩)]] 49)
        obtain ⟨u0, u1, u2, u3, u4, u5, u6, u7⟩ := Blk.m8 M5
        have ST := Lib.hid (set_4 w2.heap.size g4 fv ft _ _ _ (Cap.cell0 (Blk.alloc (Blk.alloc hcap.out _) _)) u0 u4 (Blk.fz M5 4))
        replace hrec := Lib.hid hrec'
        replace hfin := Lib.hid hfin
        clear hrec' M5 u0 u1 u2 u3 u4 u5 u6 u7 a0 a1 a2 a3 a4 a5 a6 a7 y0 y1 y2 y3 y4 y5 y6 y7 z0 z1 z2 z3 z4 z5 z6 z7
        go_wp2_with fail
        refine ST.out.mono ?_
        rintro e w3 ⟨⟨u, rfl⟩, rfl⟩
        go_wp2_with fail
        go_roundw
        case rel => exact ⟨k + 1, _, by simp, by omega, hfin.out, ff.out, hrec.out, B5.out⟩
        case measure => simp [intOf]; omega
      · have hd : (fk != 2) = true := by simpa using hk
        rw [ofM_form (by simp only; omega) (fun h => hk (h.trans rfl))] at hrec
        replace hrec := Lib.hid hrec
        clear a0 a1 a2 a3 a4 a5 a6 a7
        go_wp2_with fail
        exact bodyPost_ret (v := .tuple #[zeroM.val, .int .i64 4]) (by simp [results, Try.results12, go_sem, Me.val, zM, y0, y1, y2, y3, y4, y5, y6, y7, ltO, Nat.lt_succ_of_lt ltO]) rfl ⟨by rw [← hrec.out], ((setC8 hb1.out (Nat.le_refl _) _ _ _ _ _ _ _ _).alloc (by simp; omega) _).alloc (by simp; omega) _⟩
    · have ltP : pb < wr.heap.size := Blk.lt p0
      have r0 := Blk.cell p0 25
      have r1 := Blk.cell p0 26
      have r2 := Blk.cell p0 27
      have r3 := Blk.cell p0 28
      have r4 := Blk.cell p0 29
      simp only [List.getElem?_toArray, List.getElem?_cons_succ, List.getElem?_cons_zero] at r0 r1 r2 r3 r4
      have hcap := Lib.hid p5
      clear p0 p1 p2 p3 p4 p5 p6 p7 h8
      by_cases hk : fk = 2
      · subst hk
        rw [ofM_take (by simp only; omega) rfl (by simp only; omega)] at hrec
        have hrec' : ofM (L.drop (k + 1)) (setP 5 m fv ft) = ofM L zeroM := hrec
        have hfin : Blk (((wr.setCell ⟨w2.heap.size, 5, none⟩ (.string ft)).alloc (.cells #[.int .i64 6, .int .i64 2, .int .u64 (fv : Nat), .string ft] 41)).alloc (.cells #[.int .i64 6, .int .i64 2, .int .u64 0, .func (.func 45) #[] #[.pointer (some ⟨g5, 0, none⟩)], .func (.func 46) #[] #[.pointer (some ⟨g5, 0, none⟩)]] 49)) w2.heap.size 24 (setP 5 m fv ft).cells := by
          rw [← set_cells_5]; exact Blk.alloc (Blk.alloc (Blk.set hM.out 5 _) _) _
        have ff := Lib.hid (((hf.out.set 5 (.string ft)).ext (ext_alloc _ (.cells #[.int .i64 6, .int .i64 2, .int .u64 (fv : Nat), .string ft] 41))).ext (ext_alloc _ (.cells #[.int .i64 6, .int .i64 2, .int .u64 0, .func (.func 45) #[] #[.pointer (some ⟨g5, 0, none⟩)], .func (.func 46) #[] #[.pointer (some ⟨g5, 0, none⟩)]] 49)))
        have B5 := Lib.hid (((hb1.out.setCell (p := ⟨w2.heap.size, 5, none⟩) (by simp; omega) (.string ft)).alloc (by simp; omega) (.cells #[.int .i64 6, .int .i64 2, .int .u64 (fv : Nat), .string ft] 41)).alloc (by simp; omega) (.cells #[.int .i64 6, .int .i64 2, .int .u64 0, .func (.func 45) #[] #[.pointer (some ⟨g5, 0, none⟩)], .func (.func 46) #[] #[.pointer (some ⟨g5, 0, none⟩)]] 49))
        have M5 := Blk.alloc (Blk.alloc hM.out (.cells #[.int .i64 6, .int .i64 2, .int .u64 (fv : Nat), .string ft] 41)) (.cells #[.int .i64 6, .int .i64 2, .int .u64 0, .func (.func 45) #[] #[.pointer (some ⟨g5, 0, none⟩)], .func (.func 46) #[] #[.pointer (some ⟨g5, 0, none⟩)]] 49)
        obtain ⟨u0, u1, u2, u3, u4, u5, u6, u7⟩ := Blk.m8 M5
        have ST := Lib.hid (set_5 w2.heap.size g5 fv ft _ _ _ (Cap.cell0 (Blk.alloc (Blk.alloc hcap.out _) _)) u0 u5 (Blk.fz M5 5))
        replace hrec := Lib.hid hrec'
        replace hfin := Lib.hid hfin
        clear hrec' M5 u0 u1 u2 u3 u4 u5 u6 u7 a0 a1 a2 a3 a4 a5 a6 a7 y0 y1 y2 y3 y4 y5 y6 y7 z0 z1 z2 z3 z4 z5 z6 z7
        go_wp2_with fail
        refine ST.out.mono ?_
        rintro e w3 ⟨⟨u, rfl⟩, rfl⟩
        go_wp2_with fail
        go_roundw
        case rel => exact ⟨k + 1, _, by simp, by omega, hfin.out, ff.out, hrec.out, B5.out⟩
        case measure => simp [intOf]; omega
      · have hd : (fk != 2) = true := by simpa using hk
        rw [ofM_form (by simp only; omega) (fun h => hk (h.trans rfl))] at hrec
        replace hrec := Lib.hid hrec
        clear a0 a1 a2 a3 a4 a5 a6 a7
        go_wp2_with fail
        exact bodyPost_ret (v := .tuple #[zeroM.val, .int .i64 4]) (by simp [results, Try.results12, go_sem, Me.val, zM, y0, y1, y2, y3, y4, y5, y6, y7, ltO, Nat.lt_succ_of_lt ltO]) rfl ⟨by rw [← hrec.out], ((setC8 hb1.out (Nat.le_refl _) _ _ _ _ _ _ _ _).alloc (by simp; omega) _).alloc (by simp; omega) _⟩
    · have ltP : pb < wr.heap.size := Blk.lt p0
      have r0 := Blk.cell p0 30
      have r1 := Blk.cell p0 31
      have r2 := Blk.cell p0 32
      have r3 := Blk.cell p0 33
      have r4 := Blk.cell p0 34
      simp only [List.getElem?_toArray, List.getElem?_cons_succ, List.getElem?_cons_zero] at r0 r1 r2 r3 r4
      have hcap := Lib.hid p6
      clear p0 p1 p2 p3 p4 p5 p6 p7 h8
      by_cases hk : fk = 2
      · subst hk
        rw [ofM_take (by simp only; omega) rfl (by simp only; omega)] at hrec
        have hrec' : ofM (L.drop (k + 1)) (setP 6 m fv ft) = ofM L zeroM := hrec
        have hfin : Blk (((wr.setCell ⟨w2.heap.size, 6, none⟩ (.string ft)).alloc (.cells #[.int .i64 7, .int .i64 2, .int .u64 (fv : Nat), .string ft] 41)).alloc (.cells #[.int .i64 7, .int .i64 2, .int .u64 0, .func (.func 45) #[] #[.pointer (some ⟨g6, 0, none⟩)], .func (.func 46) #[] #[.pointer (some ⟨g6, 0, none⟩)]] 49)) w2.heap.size 24 (setP 6 m fv ft).cells := by
          rw [← set_cells_6]; exact Blk.alloc (Blk.alloc (Blk.set hM.out 6 _) _) _
        have ff := Lib.hid (((hf.out.set 6 (.string ft)).ext (ext_alloc _ (.cells #[.int .i64 7, .int .i64 2, .int .u64 (fv : Nat), .string ft] 41))).ext (ext_alloc _ (.cells #[.int .i64 7, .int .i64 2, .int .u64 0, .func (.func 45) #[] #[.pointer (some ⟨g6, 0, none⟩)], .func (.func 46) #[] #[.pointer (some ⟨g6, 0, none⟩)]] 49)))
        have B5 := Lib.hid (((hb1.out.setCell (p := ⟨w2.heap.size, 6, none⟩) (by simp; omega) (.string ft)).alloc (by simp; omega) (.cells #[.int .i64 7, .int .i64 2, .int .u64 (fv : Nat), .string ft] 41)).alloc (by simp; omega) (.cells #[.int .i64 7, .int .i64 2, .int .u64 0, .func (.func 45) #[] #[.pointer (some ⟨g6, 0, none⟩)], .func (.func 46) #[] #[.pointer (some ⟨g6, 0, none⟩)]] 49))
        have M5 := Blk.alloc (Blk.alloc hM.out (.cells #[.int .i64 7, .int .i64 2, .int .u64 (fv : Nat), .string ft] 41)) (.cells #[.int .i64 7, .int .i64 2, .int .u64 0, .func (.func 45) #[] #[.pointer (some ⟨g6, 0, none⟩)], .func (.func 46) #[] #[.pointer (some ⟨g6, 0, none⟩)]] 49)
        obtain ⟨u0, u1, u2, u3, u4, u5, u6, u7⟩ := Blk.m8 M5
        have ST := Lib.hid (set_6 w2.heap.size g6 fv ft _ _ _ (Cap.cell0 (Blk.alloc (Blk.alloc hcap.out _) _)) u0 u6 (Blk.fz M5 6))
        replace hrec := Lib.hid hrec'
        replace hfin := Lib.hid hfin
        clear hrec' M5 u0 u1 u2 u3 u4 u5 u6 u7 a0 a1 a2 a3 a4 a5 a6 a7 y0 y1 y2 y3 y4 y5 y6 y7 z0 z1 z2 z3 z4 z5 z6 z7
        go_wp2_with fail
        refine ST.out.mono ?_
        rintro e w3 ⟨⟨u, rfl⟩, rfl⟩
        go_wp2_with fail
        go_roundw
        case rel => exact ⟨k + 1, _, by simp, by omega, hfin.out, ff.out, hrec.out, B5.out⟩
        case measure => simp [intOf]; omega
      · have hd : (fk != 2) = true := by simpa using hk
        rw [ofM_form (by simp only; omega) (fun h => hk (h.trans rfl))] at hrec
        replace hrec := Lib.hid hrec
        clear a0 a1 a2 a3 a4 a5 a6 a7
        go_wp2_with fail
        exact bodyPost_ret (v := .tuple #[zeroM.val, .int .i64 4]) (by simp [results, Try.results12, go_sem, Me.val, zM, y0, y1, y2, y3, y4, y5, y6, y7, ltO, Nat.lt_succ_of_lt ltO]) rfl ⟨by rw [← hrec.out], ((setC8 hb1.out (Nat.le_refl _) _ _ _ _ _ _ _ _).alloc (by simp; omega) _).alloc (by simp; omega) _⟩
    · have ltP : pb < wr.heap.size := Blk.lt p0
      have r0 := Blk.cell p0 35
      have r1 := Blk.cell p0 36
      have r2 := Blk.cell p0 37
      have r3 := Blk.cell p0 38
      have r4 := Blk.cell p0 39
      simp only [List.getElem?_toArray, List.getElem?_cons_succ, List.getElem?_cons_zero] at r0 r1 r2 r3 r4
      have hcap := Lib.hid p7
      clear p0 p1 p2 p3 p4 p5 p6 p7 h8
      by_cases hk : fk = 2
      · subst hk
        rw [ofM_take (by simp only; omega) rfl (by simp only; omega)] at hrec
        have hrec' : ofM (L.drop (k + 1)) (setP 7 m fv ft) = ofM L zeroM := hrec
        have hfin : Blk (((wr.setCell ⟨w2.heap.size, 7, none⟩ (.string ft)).alloc (.cells #[.int .i64 8, .int .i64 2, .int .u64 (fv : Nat), .string ft] 41)).alloc (.cells #[.int .i64 8, .int .i64 2, .int .u64 0, .func (.func 45) #[] #[.pointer (some ⟨g7, 0, none⟩)], .func (.func 46) #[] #[.pointer (some ⟨g7, 0, none⟩)]] 49)) w2.heap.size 24 (setP 7 m fv ft).cells := by
          rw [← set_cells_7]; exact Blk.alloc (Blk.alloc (Blk.set hM.out 7 _) _) _
        have ff := Lib.hid (((hf.out.set 7 (.string ft)).ext (ext_alloc _ (.cells #[.int .i64 8, .int .i64 2, .int .u64 (fv : Nat), .string ft] 41))).ext (ext_alloc _ (.cells #[.int .i64 8, .int .i64 2, .int .u64 0, .func (.func 45) #[] #[.pointer (some ⟨g7, 0, none⟩)], .func (.func 46) #[] #[.pointer (some ⟨g7, 0, none⟩)]] 49)))
        have B5 := Lib.hid (((hb1.out.setCell (p := ⟨w2.heap.size, 7, none⟩) (by simp; omega) (.string ft)).alloc (by simp; omega) (.cells #[.int .i64 8, .int .i64 2, .int .u64 (fv : Nat), .string ft] 41)).alloc (by simp; omega) (.cells #[.int .i64 8, .int .i64 2, .int .u64 0, .func (.func 45) #[] #[.pointer (some ⟨g7, 0, none⟩)], .func (.func 46) #[] #[.pointer (some ⟨g7, 0, none⟩)]] 49))
        have M5 := Blk.alloc (Blk.alloc hM.out (.cells #[.int .i64 8, .int .i64 2, .int .u64 (fv : Nat), .string ft] 41)) (.cells #[.int .i64 8, .int .i64 2, .int .u64 0, .func (.func 45) #[] #[.pointer (some ⟨g7, 0, none⟩)], .func (.func 46) #[] #[.pointer (some ⟨g7, 0, none⟩)]] 49)
        obtain ⟨u0, u1, u2, u3, u4, u5, u6, u7⟩ := Blk.m8 M5
        have ST := Lib.hid (set_7 w2.heap.size g7 fv ft _ _ _ (Cap.cell0 (Blk.alloc (Blk.alloc hcap.out _) _)) u0 u7 (Blk.fz M5 7))
        replace hrec := Lib.hid hrec'
        replace hfin := Lib.hid hfin
        clear hrec' M5 u0 u1 u2 u3 u4 u5 u6 u7 a0 a1 a2 a3 a4 a5 a6 a7 y0 y1 y2 y3 y4 y5 y6 y7 z0 z1 z2 z3 z4 z5 z6 z7
        go_wp2_with fail
        refine ST.out.mono ?_
        rintro e w3 ⟨⟨u, rfl⟩, rfl⟩
        go_wp2_with fail
        go_roundw
        case rel => exact ⟨k + 1, _, by simp, by omega, hfin.out, ff.out, hrec.out, B5.out⟩
        case measure => simp [intOf]; omega
      · have hd : (fk != 2) = true := by simpa using hk
        rw [ofM_form (by simp only; omega) (fun h => hk (h.trans rfl))] at hrec
        replace hrec := Lib.hid hrec
        clear a0 a1 a2 a3 a4 a5 a6 a7
        go_wp2_with fail
        exact bodyPost_ret (v := .tuple #[zeroM.val, .int .i64 4]) (by simp [results, Try.results12, go_sem, Me.val, zM, y0, y1, y2, y3, y4, y5, y6, y7, ltO, Nat.lt_succ_of_lt ltO]) rfl ⟨by rw [← hrec.out], ((setC8 hb1.out (Nat.le_refl _) _ _ _ _ _ _ _ _).alloc (by simp; omega) _).alloc (by simp; omega) _⟩
theorem ofM_part (b a : Me) (i : Nat) (hi : i < 8) (l : List Fd) : ofM (fieldP b i ++ l) a = ofM l (joinAt b a i) := by
  unfold fieldP joinAt
  by_cases h : getN i b = 0 ∧ (getS i b).size = 0
  · rw [if_pos h, if_pos h]; rfl
  · rw [if_neg h, if_neg h]
    have e : ((i : Int) + 1 - 1).toNat = i := by omega
    show ofM (⟨(i : Int) + 1, kindP i, getN i b, getS i b⟩ :: l) a = _
    rw [ofM_take (by simp only; omega) (by simp only [e]) ?_]
    · simp only [e]
    · rintro ⟨h1, h2⟩
      simp only at h1 h2
      obtain rfl : i = 0 := by omega
      unfold getN at h2
      rw [if_pos rfl] at h2
      split at h2 <;> omega
theorem ofM_fields (b a : Me) : ∀ (k : Nat), k ≤ 8 → ∀ l : List Fd, ofM (fieldsK b k ++ l) a = ofM l (joinK a b k)
  | 0, _, l => by simp [fieldsK, joinK]
  | k + 1, h, l => by
    rw [fieldsK_succ, List.append_assoc, ofM_fields b a k (by omega), ofM_part b _ k (by omega), joinK_succ]
theorem later_zero (s : ByteArray) : laterS ⟨#[]⟩ s = s := by
  unfold laterS
  by_cases h : s.size = 0
  · rw [if_pos h]; exact (size0 h).symm
  · rw [if_neg h]
theorem laterN_zero (n : Nat) : laterN 0 n = n := by
  unfold laterN
  by_cases h : n = 0
  · rw [if_pos h, h]
  · rw [if_neg h]
theorem join_zero (m : Me) : joinK zeroM m 8 = m := by
  rw [joinD_is]
  obtain ⟨m0, m1, m2, m3, m4, m5, m6, m7⟩ := m
  simp only [joinD, zeroM, later_zero, laterN_zero, Bool.false_or]
theorem ofM_back (m : Me) : ofM (fieldsK m 8) zeroM = (m, 0) := by
  have h := ofM_fields m zeroM 8 (Nat.le_refl _) []
  rw [List.append_nil] at h
  rw [h, join_zero, ofM]
theorem ofM_two (m n : Me) : ofM (fieldsK m 8 ++ fieldsK n 8) zeroM = (joinK m n 8, 0) := by
  have h := ofM_fields n m 8 (Nat.le_refl _) []
  rw [List.append_nil] at h
  rw [ofM_fields m zeroM 8 (Nat.le_refl _), join_zero, h, ofM]
theorem ofM_far (l : List Fd) : ∀ (far : List Fd) (a : Me), (∀ f ∈ far, 8 < f.num) → ofM (far ++ l) a = ofM l a
  | [], _, _ => rfl
  | f :: far, a, h => by
    show ofM (f :: (far ++ l)) a = _
    rw [ofM_skip (h f (by simp)), ofM_far l far a (fun x hx => h x (by simp [hx]))]
theorem ofMR_of {b : List Nat} {l : List Fd} (h : ofR b = (l, 0)) : ofMR b = ofM l zeroM := by
  unfold ofMR
  rw [h, if_neg (by simp)]
theorem puts_none (l : List Fd) (h : putsE l ≠ 0) : putsL l = [] := by unfold putsL; rw [if_neg h]
/-- There and back. -/
theorem back_M {m : Me} (hm : m.ok) (h : putsE (fieldsK m 8) = 0) : ofMR (putsL (fieldsK m 8)) = (m, 0) ∧ (putsL (fieldsK m 8)).length ≤ 4096 ∧ ∀ x ∈ putsL (fieldsK m 8), x < 256 := by
  obtain ⟨h1, h2, h3⟩ := of_join _ (fields_ok hm) h
  exact ⟨by rw [ofMR_of h1, ofM_back], h2, h3⟩
/-- Two of them, one behind the other. -/
theorem two_M {m n : Me} (hm : m.ok) (hn : n.ok) (h1 : putsE (fieldsK m 8) = 0) (h2 : putsE (fieldsK n 8) = 0) (h4 : (putsL (fieldsK m 8)).length + (putsL (fieldsK n 8)).length ≤ 4096) :
    ofMR (putsL (fieldsK m 8) ++ putsL (fieldsK n 8)) = (joinK m n 8, 0) := by
  obtain ⟨a1, -, a3⟩ := of_join _ (fields_ok hm) h1
  obtain ⟨b1, -, b3⟩ := of_join _ (fields_ok hn) h2
  have la := fieldsK_le m 8
  have lb := fieldsK_le n 8
  rw [ofMR_of (of_two _ _ _ _ a3 b3 a1 b1 h4 (by omega)), ofM_two]
/-- Fields of other numbers tell nothing. -/
theorem far_M {m : Me} {far : List Fd} (hm : m.ok) (hf : ∀ f ∈ far, f.ok) (h8 : ∀ f ∈ far, 8 < f.num) (hn : far.length ≤ 20) (h1 : putsE (fieldsK m 8) = 0) (h2 : putsE far = 0) (h4 : (putsL (fieldsK m 8)).length + (putsL far).length ≤ 4096) :
    ofMR (putsL (fieldsK m 8) ++ putsL far) = (m, 0) ∧ ofMR (putsL far ++ putsL (fieldsK m 8)) = (m, 0) := by
  obtain ⟨a1, -, a3⟩ := of_join _ (fields_ok hm) h1
  obtain ⟨b1, -, b3⟩ := of_join _ hf h2
  have la := fieldsK_le m 8
  constructor
  · rw [ofMR_of (of_two _ _ _ _ a3 b3 a1 b1 h4 (by omega)), ofM_fields m zeroM 8 (Nat.le_refl _), join_zero]
    have h := ofM_far [] far m h8
    rw [List.append_nil] at h
    rw [h, ofM]
  · rw [ofMR_of (of_two _ _ _ _ b3 a3 b1 a1 (by omega) (by omega)), ofM_far _ far zeroM h8, ofM_back]
/-- The fields of other numbers among the first. -/
def farK (A : List Fd) (k : Nat) : List Fd := (A.take k).filter (fun f => decide (8 < f.num))
theorem farK_in {A : List Fd} {k : Nat} {f : Fd} (h : f ∈ farK A k) : f ∈ A ∧ 8 < f.num := by
  unfold farK at h
  obtain ⟨h1, h2⟩ := List.mem_filter.1 h
  exact ⟨List.mem_of_mem_take h1, of_decide_eq_true h2⟩
theorem farK_le (A : List Fd) (k : Nat) : (farK A k).length ≤ k := by
  unfold farK
  exact Nat.le_trans (List.length_filter_le _ _) (by rw [List.length_take]; omega)
theorem farK_take {A : List Fd} {k : Nat} {f : Fd} (h : A[k]? = some f) (h8 : 8 < f.num) : farK A (k + 1) = farK A k ++ [f] := by
  unfold farK
  rw [List.take_add_one, h, List.filter_append]
  simp [h8]
theorem farK_skip {A : List Fd} {k : Nat} {f : Fd} (h : A[k]? = some f) (h8 : ¬ 8 < f.num) : farK A (k + 1) = farK A k := by
  unfold farK
  rw [List.take_add_one, h, List.filter_append]
  simp [h8]
end Go.Proofs.Ytoglgdkeknojkaa

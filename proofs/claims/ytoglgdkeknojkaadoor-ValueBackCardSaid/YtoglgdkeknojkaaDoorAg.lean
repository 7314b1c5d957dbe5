/-
  LAYER 5: Of, the program's.
-/
import Derived.Test.YtoglgdkeknojkaaDoorAf
import Derived.Deep.QuietTactic
namespace Go.Proofs.YtoglgdkeknojkaaDoor
open Go.RowKit

def v0 : Va := ⟨0, 0, ⟨#[]⟩⟩
/-- The value of the last field that tells one. -/
def ofVs (b last : Int) : List Fd → Va → Va × Int
  | [], v => (v, 0)
  | f :: l, v =>
    if f.num < b ∨ b + last - 1 < f.num then ofVs b last l v
    else if f.kind ≠ vkind (f.num - b + 1) then (v0, 4)
    else if vmost (f.num - b + 1) < f.val then (v0, 5)
    else ofVs b last l ⟨f.num - b + 1, f.val, f.text⟩
def lastOf (raw : Bool) : Int := if raw then 7 else 6
def ofVal (b : Int) (raw : Bool) (l : List Fd) : Va × Int := if b < 1 ∨ 1000 < b then (v0, 1) else ofVs b (lastOf raw) l v0
/-- What Of makes. -/
def OfV (r : Va × Int) (w : World) (e : Ending) (w' : World) : Prop := e = .returned (.tuple #[r.1.val, .int .i64 r.2]) ∧ Below w.heap.size w w'
theorem vkind_at (i : Nat) (h : i < 8) : kindsL.getD i 0 = vkind i := by
  have : i = 0 ∨ i = 1 ∨ i = 2 ∨ i = 3 ∨ i = 4 ∨ i = 5 ∨ i = 6 ∨ i = 7 := by omega
  rcases this with rfl | rfl | rfl | rfl | rfl | rfl | rfl | rfl <;> decide
theorem vmost_at (i : Nat) (h : i < 8) : mostL.getD i 0 = (vmost i : Nat) := by
  have : i = 0 ∨ i = 1 ∨ i = 2 ∨ i = 3 ∨ i = 4 ∨ i = 5 ∨ i = 6 ∨ i = 7 := by omega
  rcases this with rfl | rfl | rfl | rfl | rfl | rfl | rfl | rfl <;> decide
theorem Tabs.sym {w : World} (h : Tabs w) (k : Int) (h0 : 0 ≤ k) (h7 : k < 8) : w.cell? ⟨0, k.toNat, none⟩ = some (.int .i64 (vkind k)) ∧ w.cell? ⟨1, k.toNat, none⟩ = some (.int .u64 (vmost k : Nat)) := by
  obtain ⟨i, rfl⟩ := Int.eq_ofNat_of_zero_le h0
  have hi : i < 8 := by omega
  simp only [Int.toNat_natCast]
  refine ⟨?_, ?_⟩
  · rw [h.1 i hi, vkind_at i hi]
  · rw [h.2 i hi, vmost_at i hi]
/-- A boxed value. -/
def VB (w : World) (g : Nat) (v : Va) : Prop := Blk w g 24 #[.int .i64 v.k, .int .u64 (v.n : Nat), .string v.s]
theorem VB.cells {w : World} {g : Nat} {v : Va} (h : VB w g v) : w.cell? ⟨g, 0, none⟩ = some (.int .i64 v.k) ∧ w.cell? ⟨g, 1, none⟩ = some (.int .u64 (v.n : Nat)) ∧ w.cell? ⟨g, 2, none⟩ = some (.string v.s) ∧
    w.frozen? ⟨g, 0, none⟩ = false ∧ w.frozen? ⟨g, 1, none⟩ = false ∧ w.frozen? ⟨g, 2, none⟩ = false :=
  ⟨Blk.cell h 0, Blk.cell h 1, Blk.cell h 2, Blk.fz h 0, Blk.fz h 1, Blk.fz h 2⟩
set_option maxHeartbeats 2000000 in
set_option maxRecDepth 100000 in
theorem of15_base (v : Value) (l : List Fd) (b : Int) (raw : Bool) (w : World) (h : b < 1 ∨ (1 ≤ b ∧ 1000 < b)) (hv : ∃ a n c, v = .slice a n c) : Calls Tryd.prog 15 #[v, .int .i64 b, .bool raw] w (OfV (v0, 1) w) := by
  have G := Lib.hid (fun w => base_no b w h)
  obtain ⟨a, n, c, rfl⟩ := hv
  replace h := Lib.hid h
  go_enter Tryd.func15, Tryd.ntmps15
  go_wp2_with fail
  refine (G.out _).mono ?_
  rintro e w1 ⟨rfl, rfl⟩
  go_wp2_with fail
  exact bodyPost_ret (v := .tuple #[v0.val, .int .i64 1]) (by simp [results, Tryd.results15, go_sem, v0, Va.val]) rfl ⟨rfl, by repeat (first | exact e_alloc _ _ | refine Below.setCell ?_ (by simp) _)⟩
/-- What the round of Of holds. -/
def OfR (b la : Int) (l : List Fd) (w : World) (v0' : Va) (k : Nat) (wr : World) : Prop :=
  ∃ v : Va, VB wr w.heap.size v0 ∧ VB wr (w.heap.size + 1) v ∧ ofVs b la (l.drop k) v = ofVs b la l v0' ∧ Below w.heap.size w wr
theorem Blk.drewN {w : World} {g : Nat} {t : TypeId} {cs : Array Value} (h : Blk w g t cs) (n : Nat) : Blk (w.drewN n) g t cs := by
  induction n with
  | zero => exact h
  | succ n ih => exact Blk.drew ih
theorem VB.set3 {w : World} {g : Nat} {v u : Va} (h : VB w g v) : VB (((w.setCell ⟨g, 0, none⟩ (.int .i64 u.k)).setCell ⟨g, 1, none⟩ (.int .u64 (u.n : Nat))).setCell ⟨g, 2, none⟩ (.string u.s)) g u := by
  have h1 := Blk.set h 0 (.int .i64 u.k)
  have h2 := Blk.set h1 1 (.int .u64 (u.n : Nat))
  exact Blk.set h2 2 (.string u.s)
theorem drop_at {l : List Fd} {k : Nat} {f : Fd} (h : l[k]? = some f) : l.drop k = f :: l.drop (k + 1) := by
  obtain ⟨hlt, he⟩ := List.getElem?_eq_some_iff.1 h
  rw [List.drop_eq_getElem_cons hlt, he]
theorem ofVs_skip {b la : Int} {f : Fd} {l : List Fd} {v : Va} (h : f.num < b ∨ b + la - 1 < f.num) : ofVs b la (f :: l) v = ofVs b la l v := by rw [ofVs, if_pos h]
theorem ofVs_form {b la : Int} {f : Fd} {l : List Fd} {v : Va} (h : ¬ (f.num < b ∨ b + la - 1 < f.num)) (hk : f.kind ≠ vkind (f.num - b + 1)) : ofVs b la (f :: l) v = (v0, 4) := by rw [ofVs, if_neg h, if_pos hk]
theorem ofVs_range {b la : Int} {f : Fd} {l : List Fd} {v : Va} (h : ¬ (f.num < b ∨ b + la - 1 < f.num)) (hk : f.kind = vkind (f.num - b + 1)) (hv : vmost (f.num - b + 1) < f.val) : ofVs b la (f :: l) v = (v0, 5) := by rw [ofVs, if_neg h, if_neg (by simpa using hk), if_pos hv]
theorem ofVs_take {b la : Int} {f : Fd} {l : List Fd} {v : Va} (h : ¬ (f.num < b ∨ b + la - 1 < f.num)) (hk : f.kind = vkind (f.num - b + 1)) (hv : ¬ vmost (f.num - b + 1) < f.val) : ofVs b la (f :: l) v = ofVs b la l ⟨f.num - b + 1, f.val, f.text⟩ := by rw [ofVs, if_neg h, if_neg (by simpa using hk), if_neg hv]
set_option maxHeartbeats 4000000 in
set_option maxRecDepth 100000 in
theorem of15_false (v : Value) (l : List Fd) (b : Int) (w : World) (hs : FdsAt w v l) (ht : Tabs w) (hok : ∀ f ∈ l, f.ok) (h1 : 1 ≤ b) (h2 : b ≤ 1000) : Calls Tryd.prog 15 #[v, .int .i64 b, .bool false] w (OfV (ofVs b 6 l v0) w) := by
  have G := Lib.hid (fun w => base_yes b w h1 h2)
  obtain ⟨a, cap, rfl, hlen, hc⟩ := hs
  replace hc := Lib.hid hc
  replace hok := Lib.hid hok
  replace ht := Lib.hid ht
  have hlen' : (l.length : Int) ≤ 9223372036854775807 := by omega
  have hlt : w.heap.size < w.heap.size + 1 := by omega
  go_enter Tryd.func15, Tryd.ntmps15
  go_wp2_with fail
  refine (G.out _).mono ?_
  rintro e w1 ⟨rfl, rfl⟩
  go_wp2_with fail
  go_loopw [20] (fun i wr => ∃ k : Nat, i = .int .i64 k ∧ k ≤ l.length ∧ OfR b 6 l w v0 k wr) (fun i _ => l.length - (intOf i).toNat)
  case atStart =>
    refine ⟨0, rfl, by omega, v0, ?_, ?_, rfl, ?_⟩
    · exact Blk.alloc (Blk.new w 24 _) _
    · have h := Blk.new (w.alloc (.cells #[.int .i64 0, .int .u64 0, .string ⟨#[]⟩] 24)) 24 #[.int .i64 0, .int .u64 0, .string ⟨#[]⟩]
      rw [show (w.alloc (.cells #[.int .i64 0, .int .u64 0, .string ⟨#[]⟩] 24)).heap.size = w.heap.size + 1 by simp] at h
      exact h
    · exact (e_alloc _ _).alloc (by simp) _
  case round =>
    obtain ⟨k, rfl, hk, v, hv0, hv1, hrec, hb⟩ := hrel
    obtain ⟨q0, q1, q2, z0, z1, z2⟩ := VB.cells hv0
    obtain ⟨r0, r1, r2, y0, y1, y2⟩ := VB.cells hv1
    simp only [v0] at q0 q1 q2
    have lt0 : w.heap.size < wr.heap.size := Blk.lt hv0
    have lt1 : w.heap.size + 1 < wr.heap.size := Blk.lt hv1
    replace hv0 := Lib.hid hv0
    replace hv1 := Lib.hid hv1
    replace hb := Lib.hid hb
    by_cases hend : k = l.length
    · subst hend
      rw [List.drop_length, ofVs] at hrec
      replace hrec := Lib.hid hrec
      obtain ⟨vk, vn, vs⟩ := v
      simp only at r0 r1 r2
      go_wp2
      exact bodyPost_ret (v := .tuple #[(Va.mk vk vn vs).val, .int .i64 0]) (by simp [results, Tryd.results15, go_sem, Va.val, q0, q1, q2, r0, r1, r2]) rfl ⟨by rw [← hrec.out], ((hb.out.setCell (by simp) _).setCell (by simp) _).setCell (by simp) _⟩
    obtain ⟨f, hf⟩ : ∃ f, l[k]? = some f := ⟨_, List.getElem?_eq_getElem (by omega)⟩
    obtain ⟨bb, o, rfl, hbl, hcell⟩ : ∃ b o, a = some ⟨b, o, none⟩ ∧ b < w.heap.size ∧ w.rangeAt b (o + k * 4) f.cells := by
      rcases hc.out with h | ⟨b, o, ha, hb, hc⟩
      · subst h; simp at hf
      · exact ⟨b, o, ha, hb, hc k f hf⟩
    have hr := rangeAt_keep hcell hb.out hbl
    clear hcell
    obtain ⟨c0, c1, c2, c3⟩ := rangeAt4 hr
    clear hr
    rw [drop_at hf] at hrec
    obtain ⟨fn, ff, fv, ft⟩ := hok.out f (List.mem_of_getElem? hf)
    replace hf := Lib.hid hf
    have klt : (k : Int) < (l.length : Int) := by omega
    have g0 : Tabs (wr.alloc (.cells #[.int .i64 f.num, .int .i64 f.kind, .int .u64 (f.val : Nat), .string f.text] 48)) := ht.out.keep (hb.out.trans ((ext_alloc wr (.cells #[.int .i64 f.num, .int .i64 f.kind, .int .u64 (f.val : Nat), .string f.text] 48)).mono hb.out.size))
    have hB := Lib.hid (hb.out.trans ((ext_alloc wr (.cells #[.int .i64 f.num, .int .i64 f.kind, .int .u64 (f.val : Nat), .string f.text] 48)).mono hb.out.size))
    by_cases hin : f.num < b ∨ b + 6 - 1 < f.num
    · rw [ofVs_skip hin] at hrec
      have hin' : f.num < b ∨ (b ≤ f.num ∧ b + 6 - 1 < f.num) := by omega
      replace hrec := Lib.hid hrec
      clear hin g0
      obtain ⟨fnum, fkind, fval, ftext⟩ := f
      simp only at c0 c1 c2 c3 hin' fn
      rcases hin' with hin | ⟨hin, hin2⟩
      all_goals
        go_wp2
        go_roundw
        case rel => exact ⟨k + 1, by simp, by omega, v, Blk.alloc hv0.out _, Blk.alloc hv1.out _, hrec.out, hB.out⟩
        case measure => simp [intOf]; omega
    have i1 : b ≤ f.num := by omega
    have i2 : f.num ≤ b + 6 - 1 := by omega
    obtain ⟨t0, t1⟩ := g0.sym (f.num - b + 1) (by omega) (by omega)
    clear g0
    have j1 : 0 ≤ f.num - b + 1 := by omega
    have j2 : f.num - b + 1 < 8 := by omega
    by_cases hkd : f.kind = vkind (f.num - b + 1)
    · have hd1 : (f.kind != vkind (f.num - b + 1)) = false := by simp [hkd]
      by_cases hvm : vmost (f.num - b + 1) < f.val
      · rw [ofVs_range hin hkd hvm] at hrec
        have hd2 : decide ((vmost (f.num - b + 1) : Int) < (f.val : Int)) = true := decide_eq_true (by omega)
        replace hrec := Lib.hid hrec
        replace hkd := Lib.hid hkd
        replace hvm := Lib.hid hvm
        clear hin
        obtain ⟨fnum, fkind, fval, ftext⟩ := f
        simp only at c0 c1 c2 c3 i1 i2 j1 j2 t0 t1 hd1 hd2 fn
        go_wp2
        go_quiet (fail)
        go_wp2
        go_quiet (fail)
        go_wp2
        exact bodyPost_ret (v := .tuple #[v0.val, .int .i64 5]) (by simp [results, Tryd.results15, go_sem, Va.val, v0, q0, q1, q2, Nat.ne_of_lt lt0, lt0]) rfl ⟨by rw [← hrec.out], (((e_drewN hB.out _).setCell (by simp) _).setCell (by simp) _).setCell (by simp) _⟩
      · rw [ofVs_take hin hkd hvm] at hrec
        have hd2 : decide ((vmost (f.num - b + 1) : Int) < (f.val : Int)) = false := decide_eq_false (by omega)
        replace hrec := Lib.hid hrec
        replace hkd := Lib.hid hkd
        replace hvm := Lib.hid hvm
        clear hin
        obtain ⟨fnum, fkind, fval, ftext⟩ := f
        simp only at c0 c1 c2 c3 i1 i2 j1 j2 t0 t1 hd1 hd2 fn
        go_wp2
        go_quiet (fail)
        go_wp2
        go_quiet (fail)
        go_wp2
        go_roundw
        case rel => exact ⟨k + 1, by simp, by omega, ⟨fnum - b + 1, fval, ftext⟩, Blk.far (Blk.far (Blk.far (Blk.drewN (Blk.alloc hv0.out _) _) (by simp) _) (by simp) _) (by simp) _, VB.set3 (u := ⟨fnum - b + 1, fval, ftext⟩) (Blk.drewN (Blk.alloc hv1.out _) _), hrec.out, (((e_drewN hB.out _).setCell (by simp) _).setCell (by simp) _).setCell (by simp) _⟩
        case measure => simp [intOf]; omega
    · rw [ofVs_form hin hkd] at hrec
      have hd1 : (f.kind != vkind (f.num - b + 1)) = true := by simpa using hkd
      replace hrec := Lib.hid hrec
      replace hkd := Lib.hid hkd
      clear hin
      obtain ⟨fnum, fkind, fval, ftext⟩ := f
      simp only at c0 c1 c2 c3 i1 i2 j1 j2 t0 t1 hd1 fn
      go_wp2
      go_quiet (fail)
      go_wp2
      exact bodyPost_ret (v := .tuple #[v0.val, .int .i64 4]) (by simp [results, Tryd.results15, go_sem, Va.val, v0, q0, q1, q2, Nat.ne_of_lt lt0, lt0]) rfl ⟨by rw [← hrec.out], (((e_drewN hB.out _).setCell (by simp) _).setCell (by simp) _).setCell (by simp) _⟩
set_option maxHeartbeats 4000000 in
set_option maxRecDepth 100000 in
theorem of15_true (v : Value) (l : List Fd) (b : Int) (w : World) (hs : FdsAt w v l) (ht : Tabs w) (hok : ∀ f ∈ l, f.ok) (h1 : 1 ≤ b) (h2 : b ≤ 1000) : Calls Tryd.prog 15 #[v, .int .i64 b, .bool true] w (OfV (ofVs b 7 l v0) w) := by
  have G := Lib.hid (fun w => base_yes b w h1 h2)
  obtain ⟨a, cap, rfl, hlen, hc⟩ := hs
  replace hc := Lib.hid hc
  replace hok := Lib.hid hok
  replace ht := Lib.hid ht
  have hlen' : (l.length : Int) ≤ 9223372036854775807 := by omega
  have hlt : w.heap.size < w.heap.size + 1 := by omega
  go_enter Tryd.func15, Tryd.ntmps15
  go_wp2_with fail
  refine (G.out _).mono ?_
  rintro e w1 ⟨rfl, rfl⟩
  go_wp2_with fail
  go_loopw [20] (fun i wr => ∃ k : Nat, i = .int .i64 k ∧ k ≤ l.length ∧ OfR b 7 l w v0 k wr) (fun i _ => l.length - (intOf i).toNat)
  case atStart =>
    refine ⟨0, rfl, by omega, v0, ?_, ?_, rfl, ?_⟩
    · exact Blk.alloc (Blk.new w 24 _) _
    · have h := Blk.new (w.alloc (.cells #[.int .i64 0, .int .u64 0, .string ⟨#[]⟩] 24)) 24 #[.int .i64 0, .int .u64 0, .string ⟨#[]⟩]
      rw [show (w.alloc (.cells #[.int .i64 0, .int .u64 0, .string ⟨#[]⟩] 24)).heap.size = w.heap.size + 1 by simp] at h
      exact h
    · exact (e_alloc _ _).alloc (by simp) _
  case round =>
    obtain ⟨k, rfl, hk, v, hv0, hv1, hrec, hb⟩ := hrel
    obtain ⟨q0, q1, q2, z0, z1, z2⟩ := VB.cells hv0
    obtain ⟨r0, r1, r2, y0, y1, y2⟩ := VB.cells hv1
    simp only [v0] at q0 q1 q2
    have lt0 : w.heap.size < wr.heap.size := Blk.lt hv0
    have lt1 : w.heap.size + 1 < wr.heap.size := Blk.lt hv1
    replace hv0 := Lib.hid hv0
    replace hv1 := Lib.hid hv1
    replace hb := Lib.hid hb
    by_cases hend : k = l.length
    · subst hend
      rw [List.drop_length, ofVs] at hrec
      replace hrec := Lib.hid hrec
      obtain ⟨vk, vn, vs⟩ := v
      simp only at r0 r1 r2
      go_wp2
      exact bodyPost_ret (v := .tuple #[(Va.mk vk vn vs).val, .int .i64 0]) (by simp [results, Tryd.results15, go_sem, Va.val, q0, q1, q2, r0, r1, r2]) rfl ⟨by rw [← hrec.out], ((hb.out.setCell (by simp) _).setCell (by simp) _).setCell (by simp) _⟩
    obtain ⟨f, hf⟩ : ∃ f, l[k]? = some f := ⟨_, List.getElem?_eq_getElem (by omega)⟩
    obtain ⟨bb, o, rfl, hbl, hcell⟩ : ∃ b o, a = some ⟨b, o, none⟩ ∧ b < w.heap.size ∧ w.rangeAt b (o + k * 4) f.cells := by
      rcases hc.out with h | ⟨b, o, ha, hb, hc⟩
      · subst h; simp at hf
      · exact ⟨b, o, ha, hb, hc k f hf⟩
    have hr := rangeAt_keep hcell hb.out hbl
    clear hcell
    obtain ⟨c0, c1, c2, c3⟩ := rangeAt4 hr
    clear hr
    rw [drop_at hf] at hrec
    obtain ⟨fn, ff, fv, ft⟩ := hok.out f (List.mem_of_getElem? hf)
    replace hf := Lib.hid hf
    have klt : (k : Int) < (l.length : Int) := by omega
    have g0 : Tabs (wr.alloc (.cells #[.int .i64 f.num, .int .i64 f.kind, .int .u64 (f.val : Nat), .string f.text] 48)) := ht.out.keep (hb.out.trans ((ext_alloc wr (.cells #[.int .i64 f.num, .int .i64 f.kind, .int .u64 (f.val : Nat), .string f.text] 48)).mono hb.out.size))
    have hB := Lib.hid (hb.out.trans ((ext_alloc wr (.cells #[.int .i64 f.num, .int .i64 f.kind, .int .u64 (f.val : Nat), .string f.text] 48)).mono hb.out.size))
    by_cases hin : f.num < b ∨ b + 7 - 1 < f.num
    · rw [ofVs_skip hin] at hrec
      have hin' : f.num < b ∨ (b ≤ f.num ∧ b + 7 - 1 < f.num) := by omega
      replace hrec := Lib.hid hrec
      clear hin g0
      obtain ⟨fnum, fkind, fval, ftext⟩ := f
      simp only at c0 c1 c2 c3 hin' fn
      rcases hin' with hin | ⟨hin, hin2⟩
      all_goals
        go_wp2
        go_roundw
        case rel => exact ⟨k + 1, by simp, by omega, v, Blk.alloc hv0.out _, Blk.alloc hv1.out _, hrec.out, hB.out⟩
        case measure => simp [intOf]; omega
    have i1 : b ≤ f.num := by omega
    have i2 : f.num ≤ b + 7 - 1 := by omega
    obtain ⟨t0, t1⟩ := g0.sym (f.num - b + 1) (by omega) (by omega)
    clear g0
    have j1 : 0 ≤ f.num - b + 1 := by omega
    have j2 : f.num - b + 1 < 8 := by omega
    by_cases hkd : f.kind = vkind (f.num - b + 1)
    · have hd1 : (f.kind != vkind (f.num - b + 1)) = false := by simp [hkd]
      by_cases hvm : vmost (f.num - b + 1) < f.val
      · rw [ofVs_range hin hkd hvm] at hrec
        have hd2 : decide ((vmost (f.num - b + 1) : Int) < (f.val : Int)) = true := decide_eq_true (by omega)
        replace hrec := Lib.hid hrec
        replace hkd := Lib.hid hkd
        replace hvm := Lib.hid hvm
        clear hin
        obtain ⟨fnum, fkind, fval, ftext⟩ := f
        simp only at c0 c1 c2 c3 i1 i2 j1 j2 t0 t1 hd1 hd2 fn
        go_wp2
        go_quiet (fail)
        go_wp2
        go_quiet (fail)
        go_wp2
        exact bodyPost_ret (v := .tuple #[v0.val, .int .i64 5]) (by simp [results, Tryd.results15, go_sem, Va.val, v0, q0, q1, q2, Nat.ne_of_lt lt0, lt0]) rfl ⟨by rw [← hrec.out], (((e_drewN hB.out _).setCell (by simp) _).setCell (by simp) _).setCell (by simp) _⟩
      · rw [ofVs_take hin hkd hvm] at hrec
        have hd2 : decide ((vmost (f.num - b + 1) : Int) < (f.val : Int)) = false := decide_eq_false (by omega)
        replace hrec := Lib.hid hrec
        replace hkd := Lib.hid hkd
        replace hvm := Lib.hid hvm
        clear hin
        obtain ⟨fnum, fkind, fval, ftext⟩ := f
        simp only at c0 c1 c2 c3 i1 i2 j1 j2 t0 t1 hd1 hd2 fn
        go_wp2
        go_quiet (fail)
        go_wp2
        go_quiet (fail)
        go_wp2
        go_roundw
        case rel => exact ⟨k + 1, by simp, by omega, ⟨fnum - b + 1, fval, ftext⟩, Blk.far (Blk.far (Blk.far (Blk.drewN (Blk.alloc hv0.out _) _) (by simp) _) (by simp) _) (by simp) _, VB.set3 (u := ⟨fnum - b + 1, fval, ftext⟩) (Blk.drewN (Blk.alloc hv1.out _) _), hrec.out, (((e_drewN hB.out _).setCell (by simp) _).setCell (by simp) _).setCell (by simp) _⟩
        case measure => simp [intOf]; omega
    · rw [ofVs_form hin hkd] at hrec
      have hd1 : (f.kind != vkind (f.num - b + 1)) = true := by simpa using hkd
      replace hrec := Lib.hid hrec
      replace hkd := Lib.hid hkd
      clear hin
      obtain ⟨fnum, fkind, fval, ftext⟩ := f
      simp only at c0 c1 c2 c3 i1 i2 j1 j2 t0 t1 hd1 fn
      go_wp2
      go_quiet (fail)
      go_wp2
      exact bodyPost_ret (v := .tuple #[v0.val, .int .i64 4]) (by simp [results, Tryd.results15, go_sem, Va.val, v0, q0, q1, q2, Nat.ne_of_lt lt0, lt0]) rfl ⟨by rw [← hrec.out], (((e_drewN hB.out _).setCell (by simp) _).setCell (by simp) _).setCell (by simp) _⟩
theorem of15_any (v : Value) (l : List Fd) (b : Int) (raw : Bool) (w : World) (hs : FdsAt w v l) (ht : Tabs w) (hok : ∀ f ∈ l, f.ok) : Calls Tryd.prog 15 #[v, .int .i64 b, .bool raw] w (OfV (ofVal b raw l) w) := by
  unfold ofVal
  by_cases h : b < 1 ∨ 1000 < b
  · rw [if_pos h]
    obtain ⟨a, cap, rfl, -⟩ := hs
    exact of15_base _ l b raw w (by omega) ⟨_, _, _, rfl⟩
  · rw [if_neg h]
    cases raw
    · exact of15_false v l b w hs ht hok (by omega) (by omega)
    · exact of15_true v l b w hs ht hok (by omega) (by omega)
end Go.Proofs.YtoglgdkeknojkaaDoor

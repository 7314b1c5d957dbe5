/-
  LAYER 3: all fields of a number, of both sides.
-/
import Derived.Test.YtgegphmfdcninaaWr
namespace Go.Proofs.Ytgegphmfdcninaa
open Go.RowKit

def filt (num : Int) (l : List Fd) : List Fd := l.filter fun f => f.num == num
theorem filt_take {l : List Fd} {k : Nat} {f : Fd} (num : Int) (h : l[k]? = some f) : filt num (l.take (k + 1)) = filt num (l.take k) ++ if f.num == num then [f] else [] := by
  obtain ⟨hlt, he⟩ := List.getElem?_eq_some_iff.1 h
  unfold filt
  rw [List.take_succ_eq_append_getElem hlt, List.filter_append, he]
  congr 1
  simp only [List.filter_cons, List.filter_nil]
theorem filt_le (num : Int) (l : List Fd) (k : Nat) : (filt num (l.take k)).length ≤ l.length := by
  unfold filt
  refine Nat.le_trans (List.length_filter_le _ _) ?_
  rw [List.length_take]
  omega
def AllSt (w0 w : World) (g : Nat) (xs : List Fd) : Prop :=
  ∃ v, Blk w g 22 #[v] ∧ w.ownsRow w0.heap.size 39 4 v xs.length (fcs xs) ∧ w0.heap.size ≤ g ∧ Below w0.heap.size w0 w
theorem AllSt.ext {w0 w w' : World} {g : Nat} {xs : List Fd} (h : AllSt w0 w g xs) (hb : Below w.heap.size w w') : AllSt w0 w' g xs := by
  obtain ⟨v, h1, h2, h3, h4⟩ := h
  exact ⟨v, h1.ext hb, own_below h2 hb, h3, ext_trans h4 hb⟩
set_option maxHeartbeats 1000000 in
set_option maxRecDepth 100000 in
theorem all1_any (g : Nat) (xs : List Fd) (f : Fd) (w0 w : World) (hx : xs.length ≤ 1000000) (hA : AllSt w0 w g xs) :
    Calls Try.prog 29 #[.agg f.cells.toArray, .pointer (some ⟨g, 0, none⟩)] w fun e w' => e = .returned (.tuple #[]) ∧ AllSt w0 w' g (xs ++ [f]) := by
  obtain ⟨i0, hi, hz0, hz1, hz2⟩ := info_parts Try.info39
  replace hi := Lib.hid hi
  replace hz0 := Lib.hid hz0
  replace hz1 := Lib.hid hz1
  replace hz2 := Lib.hid hz2
  obtain ⟨v, hB, hown, hg, hb⟩ := hA
  obtain ⟨a, c, rfl⟩ := own_slice hown
  obtain ⟨fn, fk, fv, ft⟩ := f
  simp only [Fd.cells]
  have hB1 := Lib.hid (hB.alloc (.cells #[.int .i64 fn, .int .i64 fk, .int .u64 (fv : Nat), .string ft] 39))
  have hlt := hB.lt
  have c0 : (w.alloc (.cells #[.int .i64 fn, .int .i64 fk, .int .u64 (fv : Nat), .string ft] 39)).cell? ⟨g, 0, none⟩ = some (.slice a xs.length c) := hB1.out.cell 0
  have hne := own_type hown hB (by decide)
  have zr := hb.size
  replace hB := Lib.hid hB
  replace hown := Lib.hid hown
  replace hb := Lib.hid hb
  go_enter Try.func29, Try.ntmps29
  go_wp2_with (at_builtin; go_must (refine wpList_append_own_at _ rfl (.tmp 3) (.tmp 5) 22 rfl w0.heap.size 39 i0 _ 4 40 Try.underlying22 hi.out hz0.out hz1.out hz2.out rfl (by decide) _ xs.length (fcs xs) rfl ((hown.out.alloc _).alloc _) ⟨w.heap.size + 1, 0, none⟩ 1 1 [.int .i64 fn, .int .i64 fk, .int .u64 (fv : Nat), .string ft] rfl rfl (cell_four_new _ _ _ _ _ _ (by simp)) (by intro u hu; simp at hu; rcases hu with rfl | rfl | rfl | rfl <;> rfl) (by unfold maxLen; omega) (by omega) (by simp; omega) ?_); intro v2 w2 o2 gr2 n2 nb2; obtain ⟨a2, c2, rfl⟩ := own_slice o2; have B2 := Lib.hid ((hB1.out.alloc _).grown gr2 hne); have f2 : w2.frozen? ⟨g, 0, none⟩ = false := B2.out.fz 0; have q2 : w2.cell? ⟨g, 0, none⟩ = some (.slice a xs.length c) := B2.out.cell 0)
  go_end0
  have hL : fcs xs ++ [.int .i64 fn, .int .i64 fk, .int .u64 (fv : Nat), .string ft] = fcs (xs ++ [⟨fn, fk, fv, ft⟩]) := by rw [fcs_snoc]; rfl
  rw [hL] at o2
  have hn2 := own_type o2 B2.out (by decide)
  refine ⟨rfl, _, by simpa using B2.out.set 0 _, ?_, hg, ?_⟩
  · rw [List.length_append, List.length_singleton]
    exact o2.kept (gset w2 g 0 _) (.inr fun e => hn2 e.symm)
  · exact (((hb.out.alloc (by omega) _).alloc (by simp; omega) _).grown gr2 (by simp; omega) (fun j hj => (hown.out.lt j hj).1)).setCell hg _
set_option maxHeartbeats 1000000 in
set_option maxRecDepth 100000 in
theorem pick_all (v : Value) (l : List Fd) (num : Int) (g : Nat) (w0 w : World) (hs : FdsAt w0 v l) (hl : l.length ≤ 1000000) (hA : AllSt w0 w g []) :
    Calls Try.prog 27 #[v, .int .i64 num, .func (.func 29) #[] #[.pointer (some ⟨g, 0, none⟩)]] w fun e w' => e = .returned (.tuple #[]) ∧ AllSt w0 w' g (filt num l) := by
  obtain ⟨a, cap, rfl, hlen, hc⟩ := hs
  replace hc := Lib.hid hc
  have hlen' : (l.length : Int) ≤ 1000000 := by omega
  go_enter Try.func27, Try.ntmps27
  go_wp2
  go_loopw [10] (fun i wr => ∃ k : Nat, i = .int .i64 k ∧ k ≤ l.length ∧ AllSt w0 wr g (filt num (l.take k))) (fun i _ => l.length - (intOf i).toNat)
  case atStart => exact ⟨0, rfl, by omega, by simpa [filt] using hA⟩
  case round =>
    obtain ⟨k, rfl, hk, hb⟩ := hrel
    replace hb := Lib.hid hb
    by_cases hend : k = l.length
    · subst hend
      go_wp2
      go_end0
      exact ⟨rfl, by have := hb.out; rwa [List.take_length] at this⟩
    obtain ⟨f, hf⟩ : ∃ f, l[k]? = some f := ⟨_, List.getElem?_eq_getElem (by omega)⟩
    have hbel : Below w0.heap.size w0 wr := hb.out.choose_spec.2.2.2
    obtain ⟨b, o, rfl, hbl, hcell⟩ : ∃ b o, a = some ⟨b, o, none⟩ ∧ b < w0.heap.size ∧ w0.rangeAt b (o + k * 4) f.cells := by
      rcases hc.out with h | ⟨b, o, ha, hb, hc⟩
      · subst h; simp at hf
      · exact ⟨b, o, ha, hb, hc k f hf⟩
    have hr := rangeAt_keep hcell hbel hbl
    clear hcell
    obtain ⟨c0, c1, c2, c3⟩ := rangeAt4 hr
    have ht := filt_take num hf
    have hfl := filt_le num l k
    replace hf := Lib.hid hf
    have klt : (k : Int) < (l.length : Int) := by omega
    obtain ⟨fn, fk, fv, ft⟩ := f
    simp only at c0 c1 c2 c3 ht
    clear hr hbel
    have hb1 := Lib.hid (hb.out.ext (ext_alloc wr (.cells #[.int .i64 fn, .int .i64 fk, .int .u64 (fv : Nat), .string ft] 39)))
    by_cases he : fn = num
    · subst he
      have he' : (fn == fn) = true := by simp
      rw [if_pos he'] at ht
      replace ht := Lib.hid ht
      go_wp2_with fail
      refine (all1_any g _ ⟨fn, fk, fv, ft⟩ w0 _ (by omega) hb1.out).mono ?_
      rintro e w1 ⟨rfl, h1⟩
      replace h1 := Lib.hid h1
      clear c0 c1 c2 c3
      go_wp2_with fail
      go_roundw
      case rel => exact ⟨k + 1, by simp, by omega, by rw [ht.out]; exact h1.out⟩
      case measure => simp [intOf]; omega
    · have he' : (fn == num) = false := by simpa using he
      rw [if_neg (by simp [he'])] at ht
      replace ht := Lib.hid ht
      replace he := Lib.hid he
      go_wp2_with fail
      go_roundw
      case rel => exact ⟨k + 1, by simp, by omega, by rw [ht.out, List.append_nil]; exact hb1.out⟩
      case measure => simp [intOf]; omega
def AllIs (num : Int) (l : List Fd) (w : World) (e : Ending) (w' : World) : Prop := ∃ v, e = .returned v ∧ FdsAt w' v (filt num l) ∧ Below w.heap.size w w'
theorem fds_of_own {w : World} {B : Nat} {v : Value} {l : List Fd} (h : w.ownsRow B 39 4 v l.length (fcs l)) (hl : l.length ≤ 1000000) : FdsAt w v l := FdsAt.of_own h (by omega)
set_option maxHeartbeats 1000000 in
set_option maxRecDepth 100000 in
theorem all_any (v : Value) (l : List Fd) (num : Int) (w : World) (hs : FdsAt w v l) (hl : l.length ≤ 1000000) : Calls Try.prog 16 #[v, .int .i64 num] w (AllIs num l w) := by
  have k0 := Blk.new w 22 #[.slice none 0 0]
  have P := Lib.hid (pick_all v l num w.heap.size w (w.alloc (.cells #[.slice none 0 0] 22)) hs hl ⟨_, k0, ⟨rfl, .inl ⟨rfl, rfl⟩⟩, Nat.le_refl _, ext_alloc _ _⟩)
  have hfl := filt_le num l l.length
  rw [List.take_length] at hfl
  obtain ⟨a, cap, rfl, -⟩ := hs
  clear k0
  go_enter Try.func16, Try.ntmps16
  go_wp2_with fail
  refine (P.out).mono ?_
  rintro e w1 ⟨rfl, v1, B1, o1, -, b1⟩
  have c1 : w1.cell? ⟨w.heap.size, 0, none⟩ = some v1 := B1.cell 0
  obtain ⟨a1, c, rfl⟩ := own_slice o1
  replace B1 := Lib.hid B1
  replace o1 := Lib.hid o1
  replace b1 := Lib.hid b1
  go_wp2_with fail
  go_ret
  exact ⟨_, rfl, fds_of_own o1.out (by omega), b1.out⟩
set_option maxHeartbeats 1000000 in
set_option maxRecDepth 100000 in
theorem rall_any (v : Value) (l : List Fd) (num : Int) (w : World) (hs : FdsAt w v l) (hl : l.length ≤ 1000000) : Calls Try.prog 17 #[v, .int .i64 num] w (AllIs num l w) := by
  obtain ⟨i0, hi, hz0, hz1, hz2⟩ := info_parts Try.info39
  replace hi := Lib.hid hi
  replace hz0 := Lib.hid hz0
  replace hz1 := Lib.hid hz1
  replace hz2 := Lib.hid hz2
  obtain ⟨a, cap, rfl, hlen, hc⟩ := hs
  replace hc := Lib.hid hc
  have hlen' : (l.length : Int) ≤ 1000000 := by omega
  go_enter Try.func17, Try.ntmps17
  go_wp2
  go_loopw [5, 6] (fun o i wr => ∃ k : Nat, i = .int .i64 k ∧ k ≤ l.length ∧ wr.ownsRow w.heap.size 39 4 o (filt num (l.take k)).length (fcs (filt num (l.take k))) ∧ Below w.heap.size w wr) (fun _ i _ => l.length - (intOf i).toNat)
  case atStart => exact ⟨0, rfl, by omega, ⟨by simp [filt, fcs], .inl ⟨rfl, by simp [filt]⟩⟩, Below.refl _ _⟩
  case round =>
    obtain ⟨k, rfl, hk, hown, hb⟩ := hrel
    replace hb := Lib.hid hb
    replace hown := Lib.hid hown
    obtain ⟨p, c, rfl⟩ := own_slice hown.out
    by_cases hend : k = l.length
    · subst hend
      go_wp2
      go_ret
      have e : filt num l = filt num (l.take l.length) := by rw [List.take_length]
      refine ⟨_, rfl, ?_, hb.out⟩
      rw [e]
      exact fds_of_own hown.out (by have := filt_le num l l.length; omega)
    obtain ⟨f, hf⟩ : ∃ f, l[k]? = some f := ⟨_, List.getElem?_eq_getElem (by omega)⟩
    obtain ⟨b, o, rfl, hbl, hcell⟩ : ∃ b o, a = some ⟨b, o, none⟩ ∧ b < w.heap.size ∧ w.rangeAt b (o + k * 4) f.cells := by
      rcases hc.out with h | ⟨b, o, ha, hb, hc⟩
      · subst h; simp at hf
      · exact ⟨b, o, ha, hb, hc k f hf⟩
    obtain ⟨c0, c1, c2, c3⟩ := rangeAt4 (rangeAt_keep hcell hb.out hbl)
    clear hcell
    have ht := filt_take num hf
    have hfl := filt_le num l k
    replace hf := Lib.hid hf
    have klt : (k : Int) < (l.length : Int) := by omega
    obtain ⟨fn, fk, fv, ft⟩ := f
    simp only at c0 c1 c2 c3 ht
    generalize filt num (l.take k) = xs at *
    have zr := hb.out.size
    by_cases he : fn = num
    · subst he
      have he' : (fn == fn) = true := by simp
      rw [if_pos he'] at ht
      replace ht := Lib.hid ht
      go_wp2_with (at_builtin; go_must (refine wpList_append_own_at _ rfl (.tmp 20) (.tmp 25) 22 rfl w.heap.size 39 i0 _ 4 40 Try.underlying22 hi.out hz0.out hz1.out hz2.out rfl (by decide) _ xs.length (fcs xs) rfl (hown.out.alloc _) ⟨wr.heap.size, 0, none⟩ 1 1 [.int .i64 fn, .int .i64 fk, .int .u64 (fv : Nat), .string ft] rfl rfl (cell_four_new _ _ _ _ _ _ rfl) (by intro u hu; simp at hu; rcases hu with rfl | rfl | rfl | rfl <;> rfl) (by unfold maxLen; omega) (by omega) (by simp; omega) ?_); intro v2 w2 o2 gr2 n2 nb2)
      go_roundw
      case rel =>
        refine ⟨k + 1, by simp, by omega, ?_, (hb.out.alloc (by omega) _).grown gr2 (by simp; omega) (fun j hj => (hown.out.lt j hj).1)⟩
        rw [ht.out, fcs_snoc, List.length_append, List.length_singleton]
        exact o2
      case measure => simp [intOf]; omega
    · have he' : (fn == num) = false := by simpa using he
      rw [if_neg (by simp [he'])] at ht
      replace ht := Lib.hid ht
      replace he := Lib.hid he
      go_wp2_with fail
      go_roundw
      case rel => exact ⟨k + 1, by simp, by omega, by rw [ht.out, List.append_nil]; exact hown.out, hb.out⟩
      case measure => simp [intOf]; omega
/-- The last field of a number, if there is one. -/
def lastD (num : Int) (l : List Fd) : Fd × Bool := match (filt num l).getLast? with | some f => (f, true) | none => (⟨0, 0, 0, ⟨#[]⟩⟩, false)
theorem lastD_take {l : List Fd} {k : Nat} {f : Fd} (num : Int) (h : l[k]? = some f) : lastD num (l.take (k + 1)) = if f.num == num then (f, true) else lastD num (l.take k) := by
  unfold lastD
  rw [filt_take num h]
  by_cases h1 : (f.num == num) = true
  · rw [if_pos h1, if_pos h1, List.getLast?_concat]
  · rw [if_neg h1, if_neg h1, List.append_nil]
def LastSt (w0 w : World) (g h : Nat) (p : Fd × Bool) : Prop :=
  Blk w g 39 p.1.cells.toArray ∧ Blk w h 4 #[.bool p.2] ∧ w0.heap.size ≤ g ∧ w0.heap.size ≤ h ∧ Below w0.heap.size w0 w
theorem LastSt.ext {w0 w w' : World} {g h : Nat} {p : Fd × Bool} (k : LastSt w0 w g h p) (hb : Below w.heap.size w w') : LastSt w0 w' g h p :=
  ⟨k.1.ext hb, k.2.1.ext hb, k.2.2.1, k.2.2.2.1, ext_trans k.2.2.2.2 hb⟩
theorem blk_ne {w : World} {g h : Nat} {t u : TypeId} {cs ds : Array Value} (a : Blk w g t cs) (b : Blk w h u ds) (ht : t ≠ u) : g ≠ h := by
  intro e
  subst e
  unfold Blk at a b
  rw [a] at b
  simp only [Option.some.injEq, Obj.cells.injEq] at b
  exact ht b.2.1
set_option maxHeartbeats 1000000 in
set_option maxRecDepth 100000 in
theorem last1_any (g h : Nat) (p : Fd × Bool) (f : Fd) (w0 w : World) (hA : LastSt w0 w g h p) :
    Calls Try.prog 28 #[.agg f.cells.toArray, .pointer (some ⟨g, 0, none⟩), .pointer (some ⟨h, 0, none⟩)] w fun e w' => e = .returned (.tuple #[]) ∧ LastSt w0 w' g h (f, true) := by
  obtain ⟨fn, fk, fv, ft⟩ := f
  obtain ⟨⟨pn, pk, pv, pt⟩, pb⟩ := p
  have hA1 := hA.ext (ext_alloc w (.cells #[.int .i64 fn, .int .i64 fk, .int .u64 (fv : Nat), .string ft] 39))
  obtain ⟨A1, A2, A3, A4, A5⟩ := hA1
  have hne := blk_ne A1 A2 (by decide)
  obtain ⟨c0, c1, c2, c3⟩ := blk4 (f := ⟨pn, pk, pv, pt⟩) hA.1
  have d0 : w.cell? ⟨h, 0, none⟩ = some (.bool pb) := hA.2.1.cell 0
  have f0 := hA.1.fz 0
  have f1 := hA.1.fz 1
  have f2 := hA.1.fz 2
  have f3 := hA.1.fz 3
  have e0 := hA.2.1.fz 0
  have hl1 := hA.1.lt
  have hl2 := hA.2.1.lt
  have hn1 : ¬ g = h := hne
  have hn2 : ¬ h = g := fun e => hne e.symm
  have hn3 : ¬ g = w.heap.size := by omega
  have hn4 : ¬ h = w.heap.size := by omega
  replace A1 := Lib.hid A1
  replace A2 := Lib.hid A2
  replace A5 := Lib.hid A5
  replace hA := Lib.hid hA
  simp only [Fd.cells]
  go_enter Try.func28, Try.ntmps28
  go_wp2_with fail
  go_end0
  have B1 := (hA.out.1.set4 (a := .int .i64 fn) (b := .int .i64 fk) (c := .int .u64 (fv : Nat)) (d := .string ft)).far (p := ⟨h, 0, none⟩) hn1 (.bool true)
  have B2 := ((((hA.out.2.1.far (p := ⟨g, 0, none⟩) hn2 (.int .i64 fn)).far (p := ⟨g, 1, none⟩) hn2 (.int .i64 fk)).far (p := ⟨g, 2, none⟩) hn2 (.int .u64 (fv : Nat))).far (p := ⟨g, 3, none⟩) hn2 (.string ft)).set 0 (.bool true)
  have B3 := (((((hA.out.2.2.2.2.setCell (p := ⟨g, 0, none⟩) A3 (.int .i64 fn)).setCell (p := ⟨g, 1, none⟩) A3 (.int .i64 fk)).setCell (p := ⟨g, 2, none⟩) A3 (.int .u64 (fv : Nat))).setCell (p := ⟨g, 3, none⟩) A3 (.string ft)).setCell (p := ⟨h, 0, none⟩) A4 (.bool true))
  exact ⟨rfl, LastSt.ext (p := (⟨fn, fk, fv, ft⟩, true)) ⟨B1, by simpa using B2, A3, A4, B3⟩ (ext_alloc _ _)⟩
set_option maxHeartbeats 1000000 in
set_option maxRecDepth 100000 in
theorem pick_last (v : Value) (l : List Fd) (num : Int) (g h : Nat) (w0 w : World) (hs : FdsAt w0 v l) (hl : l.length ≤ 1000000) (hA : LastSt w0 w g h (⟨0, 0, 0, ⟨#[]⟩⟩, false)) :
    Calls Try.prog 27 #[v, .int .i64 num, .func (.func 28) #[] #[.pointer (some ⟨g, 0, none⟩), .pointer (some ⟨h, 0, none⟩)]] w fun e w' => e = .returned (.tuple #[]) ∧ LastSt w0 w' g h (lastD num l) := by
  obtain ⟨a, cap, rfl, hlen, hc⟩ := hs
  replace hc := Lib.hid hc
  have hlen' : (l.length : Int) ≤ 1000000 := by omega
  go_enter Try.func27, Try.ntmps27
  go_wp2
  go_loopw [10] (fun i wr => ∃ k : Nat, i = .int .i64 k ∧ k ≤ l.length ∧ LastSt w0 wr g h (lastD num (l.take k))) (fun i _ => l.length - (intOf i).toNat)
  case atStart => exact ⟨0, rfl, by omega, by simpa [lastD, filt] using hA⟩
  case round =>
    obtain ⟨k, rfl, hk, hb⟩ := hrel
    replace hb := Lib.hid hb
    by_cases hend : k = l.length
    · subst hend
      go_wp2
      go_end0
      exact ⟨rfl, by have := hb.out; rwa [List.take_length] at this⟩
    obtain ⟨f, hf⟩ : ∃ f, l[k]? = some f := ⟨_, List.getElem?_eq_getElem (by omega)⟩
    have hbel : Below w0.heap.size w0 wr := hb.out.2.2.2.2
    obtain ⟨b, o, rfl, hbl, hcell⟩ : ∃ b o, a = some ⟨b, o, none⟩ ∧ b < w0.heap.size ∧ w0.rangeAt b (o + k * 4) f.cells := by
      rcases hc.out with h | ⟨b, o, ha, hb, hc⟩
      · subst h; simp at hf
      · exact ⟨b, o, ha, hb, hc k f hf⟩
    have hr := rangeAt_keep hcell hbel hbl
    clear hcell
    obtain ⟨c0, c1, c2, c3⟩ := rangeAt4 hr
    have ht := lastD_take num hf
    replace hf := Lib.hid hf
    have klt : (k : Int) < (l.length : Int) := by omega
    obtain ⟨fn, fk, fv, ft⟩ := f
    simp only at c0 c1 c2 c3 ht
    clear hr hbel
    have hb1 := Lib.hid (hb.out.ext (ext_alloc wr (.cells #[.int .i64 fn, .int .i64 fk, .int .u64 (fv : Nat), .string ft] 39)))
    by_cases he : fn = num
    · subst he
      have he' : (fn == fn) = true := by simp
      rw [if_pos he'] at ht
      replace ht := Lib.hid ht
      go_wp2_with fail
      refine (last1_any g h _ ⟨fn, fk, fv, ft⟩ w0 _ hb1.out).mono ?_
      rintro e w1 ⟨rfl, h1⟩
      replace h1 := Lib.hid h1
      clear c0 c1 c2 c3
      go_wp2_with fail
      go_roundw
      case rel => exact ⟨k + 1, by simp, by omega, by rw [ht.out]; exact h1.out⟩
      case measure => simp [intOf]; omega
    · have he' : (fn == num) = false := by simpa using he
      rw [if_neg (by simp [he'])] at ht
      replace ht := Lib.hid ht
      replace he := Lib.hid he
      go_wp2_with fail
      go_roundw
      case rel => exact ⟨k + 1, by simp, by omega, by rw [ht.out]; exact hb1.out⟩
      case measure => simp [intOf]; omega
def LastIs (num : Int) (l : List Fd) (w : World) (e : Ending) (w' : World) : Prop := e = .returned (.tuple #[.agg (lastD num l).1.cells.toArray, .bool (lastD num l).2]) ∧ Below w.heap.size w w'
theorem ret14 {Q : Ending → World → Prop} {a : Act} {w : World} {g : Nat} {f : Fd} {b : Bool} (h2 : a.tmps[4]? = some (.pointer (some ⟨g, 0, none⟩))) (h3 : a.tmps[5]? = some (.bool b)) (hd : a.defers = [])
    (hb : Blk w g 39 f.cells.toArray) (hQ : Q (.returned (.tuple #[.agg f.cells.toArray, .bool b])) w) : bodyPost Try.prog Try.f14 Q Exit.ret a w := by
  obtain ⟨c0, c1, c2, c3⟩ := blk4 hb
  refine bodyPost_ret (v := .tuple #[.agg f.cells.toArray, .bool b]) ?_ hd hQ
  simp [results, Try.results14, go_sem, h2, h3, c0, c1, c2, c3, Fd.cells]
theorem ret15 {Q : Ending → World → Prop} {a : Act} {w : World} {g : Nat} {f : Fd} {b : Bool} (h2 : a.tmps[4]? = some (.pointer (some ⟨g, 0, none⟩))) (h3 : a.tmps[5]? = some (.bool b)) (hd : a.defers = [])
    (hb : Blk w g 39 f.cells.toArray) (hQ : Q (.returned (.tuple #[.agg f.cells.toArray, .bool b])) w) : bodyPost Try.prog Try.f15 Q Exit.ret a w := by
  obtain ⟨c0, c1, c2, c3⟩ := blk4 hb
  refine bodyPost_ret (v := .tuple #[.agg f.cells.toArray, .bool b]) ?_ hd hQ
  simp [results, Try.results15, go_sem, h2, h3, c0, c1, c2, c3, Fd.cells]
end Go.Proofs.Ytgegphmfdcninaa

/-
  LAYER 3: the last field of a number, of both sides.
-/
import Derived.Test.YtgegphmfdcninaaWs
namespace Go.Proofs.Ytgegphmfdcninaa
open Go.RowKit

set_option maxHeartbeats 1000000 in
set_option maxRecDepth 100000 in
theorem last_any (v : Value) (l : List Fd) (num : Int) (w : World) (hs : FdsAt w v l) (hl : l.length ≤ 1000000) : Calls Try.prog 14 #[v, .int .i64 num] w (LastIs num l w) := by
  obtain ⟨a, cap, rfl, -⟩ := id hs
  have b1 := ext_alloc w (.cells #[.int .i64 0, .int .i64 0, .int .u64 0, .string ⟨#[]⟩] 39)
  have kr := Blk.new w 39 #[.int .i64 0, .int .i64 0, .int .u64 0, .string ⟨#[]⟩]
  have k0 := (Blk.new (w.alloc (.cells #[.int .i64 0, .int .i64 0, .int .u64 0, .string ⟨#[]⟩] 39)) 39 #[.int .i64 0, .int .i64 0, .int .u64 0, .string ⟨#[]⟩]).alloc (.cells #[.bool false] 4)
  have k1 := Blk.new ((w.alloc (.cells #[.int .i64 0, .int .i64 0, .int .u64 0, .string ⟨#[]⟩] 39)).alloc (.cells #[.int .i64 0, .int .i64 0, .int .u64 0, .string ⟨#[]⟩] 39)) 4 #[.bool false]
  have e1 : (w.alloc (.cells #[.int .i64 0, .int .i64 0, .int .u64 0, .string ⟨#[]⟩] 39)).heap.size = w.heap.size + 1 := by simp
  have e2 : ((w.alloc (.cells #[.int .i64 0, .int .i64 0, .int .u64 0, .string ⟨#[]⟩] 39)).alloc (.cells #[.int .i64 0, .int .i64 0, .int .u64 0, .string ⟨#[]⟩] 39)).heap.size = w.heap.size + 1 + 1 := by simp
  rw [e1] at k0
  rw [e2] at k1
  have P := Lib.hid (pick_last _ l num (w.heap.size + 1) (w.heap.size + 1 + 1) (w.alloc (.cells #[.int .i64 0, .int .i64 0, .int .u64 0, .string ⟨#[]⟩] 39)) (((w.alloc (.cells #[.int .i64 0, .int .i64 0, .int .u64 0, .string ⟨#[]⟩] 39)).alloc (.cells #[.int .i64 0, .int .i64 0, .int .u64 0, .string ⟨#[]⟩] 39)).alloc (.cells #[.bool false] 4)) (hs.keep b1 (Nat.le_refl _)) hl ⟨k0, k1, by rw [e1]; exact Nat.le_refl _, by rw [e1]; exact Nat.le_succ _, two_blocks _ _ _⟩)
  clear hs k0 k1 e1 e2
  unfold LastIs
  generalize lastD num l = X at *
  obtain ⟨⟨fn, fk, fv, ft⟩, fd⟩ := X
  simp only
  replace b1 := Lib.hid b1
  replace kr := Lib.hid kr
  go_enter Try.func14, Try.ntmps14
  go_wp2_with fail
  refine (P.out).mono ?_
  rintro e w1 ⟨rfl, A1, A2, A3, A4, A5⟩
  obtain ⟨c0, c1, c2, c3⟩ := blk4 (f := ⟨fn, fk, fv, ft⟩) A1
  have d0 : w1.cell? ⟨w.heap.size + 1 + 1, 0, none⟩ = some (.bool fd) := A2.cell 0
  have kr1 := kr.out.ext A5
  obtain ⟨r0, r1, r2, r3⟩ := blk4 (f := ⟨0, 0, 0, ⟨#[]⟩⟩) kr1
  have f0 := kr1.fz 0
  have f1 := kr1.fz 1
  have f2 := kr1.fz 2
  have f3 := kr1.fz 3
  have hB := Lib.hid (ext_trans b1.out A5)
  replace kr1 := Lib.hid kr1
  replace A1 := Lib.hid A1
  replace A2 := Lib.hid A2
  clear A3 A4 A5 P
  go_wp2_with fail
  go_region
  go_wp2_with fail
  refine ret14 (f := ⟨fn, fk, fv, ft⟩) rfl rfl rfl (kr1.out.set4).drew ?_
  exact ⟨rfl, ((((hB.out.setCell (p := ⟨w.heap.size, 0, none⟩) (Nat.le_refl _) _).setCell (p := ⟨w.heap.size, 1, none⟩) (Nat.le_refl _) _).setCell (p := ⟨w.heap.size, 2, none⟩) (Nat.le_refl _) _).setCell (p := ⟨w.heap.size, 3, none⟩) (Nat.le_refl _) _).drew⟩
theorem filt_drop {l : List Fd} {k : Nat} {f : Fd} (num : Int) (h : l[k]? = some f) : filt num (l.drop k) = (if f.num == num then [f] else []) ++ filt num (l.drop (k + 1)) := by
  obtain ⟨hlt, he⟩ := List.getElem?_eq_some_iff.1 h
  unfold filt
  rw [List.drop_eq_getElem_cons hlt, he, List.filter_cons]
  split <;> rfl
theorem lastD_at {l : List Fd} {k : Nat} {f : Fd} (num : Int) (h : l[k]? = some f) (hn : filt num (l.drop (k + 1)) = []) (he : (f.num == num) = true) : lastD num l = (f, true) := by
  have e : filt num l = filt num (l.take k) ++ filt num (l.drop k) := by
    unfold filt
    rw [← List.filter_append, List.take_append_drop]
  unfold lastD
  rw [e, filt_drop num h, hn, if_pos he, List.append_nil, List.getLast?_concat]
set_option maxHeartbeats 1000000 in
set_option maxRecDepth 100000 in
theorem rlast_any (v : Value) (l : List Fd) (num : Int) (w : World) (hs : FdsAt w v l) (hl : l.length ≤ 1000000) : Calls Try.prog 15 #[v, .int .i64 num] w (LastIs num l w) := by
  have kr := Lib.hid (Blk.new w 39 #[.int .i64 0, .int .i64 0, .int .u64 0, .string ⟨#[]⟩])
  have b1 := Lib.hid (ext_alloc w (.cells #[.int .i64 0, .int .i64 0, .int .u64 0, .string ⟨#[]⟩] 39))
  obtain ⟨a, cap, rfl, hlen, hc⟩ := hs
  replace hc := Lib.hid hc
  have hl' : (l.length : Int) ≤ 1000000 := by omega
  go_enter Try.func15, Try.ntmps15
  go_wp2
  go_loopw [6] (fun i wr => ((∃ j : Nat, i = .int .i64 j ∧ j < l.length ∧ filt num (l.drop (j + 1)) = []) ∨ (i = .int .i64 (-1) ∧ filt num l = [])) ∧ Below (w.heap.size + 1) (w.alloc (.cells #[.int .i64 0, .int .i64 0, .int .u64 0, .string ⟨#[]⟩] 39)) wr) (fun i _ => (intOf i + 1).toNat)
  case atStart =>
    refine ⟨?_, Below.refl _ _⟩
    cases l with
    | nil => exact .inr ⟨by simp, rfl⟩
    | cons f r => exact .inl ⟨r.length, by simp, by simp, by simp [filt]⟩
  case round =>
    obtain ⟨hcase, hb⟩ := hrel
    have kr1 := kr.out.below hb (by omega)
    obtain ⟨r0, r1, r2, r3⟩ := blk4 (f := ⟨0, 0, 0, ⟨#[]⟩⟩) kr1
    have f0 := kr1.fz 0
    have f1 := kr1.fz 1
    have f2 := kr1.fz 2
    have f3 := kr1.fz 3
    have hB := Lib.hid (b1.out.trans (hb.mono (by omega)))
    replace kr1 := Lib.hid kr1
    replace hb := Lib.hid hb
    rcases hcase with ⟨j, rfl, hj, hn⟩ | ⟨rfl, hn⟩
    · obtain ⟨f, hf⟩ : ∃ f, l[j]? = some f := ⟨_, List.getElem?_eq_getElem (by omega)⟩
      obtain ⟨b, o, rfl, hbl, hcell⟩ : ∃ b o, a = some ⟨b, o, none⟩ ∧ b < w.heap.size ∧ w.rangeAt b (o + j * 4) f.cells := by
        rcases hc.out with h | ⟨b, o, ha, hb, hc⟩
        · subst h; simp at hf
        · exact ⟨b, o, ha, hb, hc j f hf⟩
      obtain ⟨c0, c1, c2, c3⟩ := rangeAt4 (rangeAt_keep hcell hB.out hbl)
      clear hcell
      have hbn : ¬ w.heap.size = b := by omega
      have hd := filt_drop num hf
      have jlt : (j : Int) < (l.length : Int) := by omega
      by_cases he : (f.num == num) = true
      · have hL := lastD_at num hf hn he
        obtain ⟨fn, fk, fv, ft⟩ := f
        simp only at c0 c1 c2 c3 he
        have he' : fn = num := by simpa using he
        subst he'
        replace hL := Lib.hid hL
        replace hf := Lib.hid hf
        replace hd := Lib.hid hd
        replace hn := Lib.hid hn
        go_wp2_with fail
        refine ret15 (f := ⟨fn, fk, fv, ft⟩) rfl rfl rfl (kr1.out.set4) ?_
        exact ⟨by rw [hL.out], (((hB.out.setCell (p := ⟨w.heap.size, 0, none⟩) (Nat.le_refl _) _).setCell (p := ⟨w.heap.size, 1, none⟩) (Nat.le_refl _) _).setCell (p := ⟨w.heap.size, 2, none⟩) (Nat.le_refl _) _).setCell (p := ⟨w.heap.size, 3, none⟩) (Nat.le_refl _) _⟩
      · rw [if_neg he, List.nil_append, hn] at hd
        obtain ⟨fn, fk, fv, ft⟩ := f
        simp only at c0 c1 c2 c3 he
        have he' : (fn == num) = false := by simpa using he
        replace he := Lib.hid he
        replace hf := Lib.hid hf
        replace hd := Lib.hid hd
        replace hn := Lib.hid hn
        clear r0 r1 r2 r3 f0 f1 f2 f3
        go_wp2_with fail
        go_roundw
        case rel =>
          refine ⟨?_, hb.out⟩
          cases j with
          | zero => exact .inr ⟨by simp, by simpa using hd.out⟩
          | succ j => exact .inl ⟨j, by simp, by omega, hd.out⟩
        case measure => first | (simp [intOf]; done) | (simp [intOf]; omega)
    · have hL : lastD num l = (⟨0, 0, 0, ⟨#[]⟩⟩, false) := by unfold lastD; rw [hn]; rfl
      replace hL := Lib.hid hL
      replace hn := Lib.hid hn
      go_wp2_with fail
      refine ret15 (f := ⟨0, 0, 0, ⟨#[]⟩⟩) rfl rfl rfl (kr1.out.set4) ?_
      exact ⟨by rw [hL.out], (((hB.out.setCell (p := ⟨w.heap.size, 0, none⟩) (Nat.le_refl _) _).setCell (p := ⟨w.heap.size, 1, none⟩) (Nat.le_refl _) _).setCell (p := ⟨w.heap.size, 2, none⟩) (Nat.le_refl _) _).setCell (p := ⟨w.heap.size, 3, none⟩) (Nat.le_refl _) _⟩
end Go.Proofs.Ytgegphmfdcninaa

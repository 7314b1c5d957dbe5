/-
  LAYER 28: the document's New, Find, Open, Drop.
-/
import Derived.Test.YtdcfenkllpfbaaaCa
namespace Go.Proofs.Ytdcfenkllpfbaaa.Sns
set_option linter.unusedVariables false
set_option linter.unusedSimpArgs false
open Go.Proofs.Ytdcfenkllpfbaaa
open Go.RowKit Que
variable {w w' : World} {x B : Nat} {n : Int} {D : List (Option De)}
theorem De.At.base {z : De} {B' : Nat} (h : z.At w B' n) (hB : B ≤ B') : z.At w B n := ⟨h.row, ⟨h.xq.row, own_base h.xq.its hB⟩, Nat.le_trans hB h.old, h.len, h.lost0, h.lostn⟩
theorem De.At.offx {z : De} {cs : Array Value} (h : z.At w B n) (hx : w.heap[x]? = some (.cells cs 59 (0, 0))) (F : Far (fun k => k = x) w w') : z.At w' B n :=
  h.far F (ne_ty h.row hx (by decide)) (ne_ty h.xq.row hx (by decide)) (fun k hk e => own_far h.xq.its hx (by decide) (by rw [hk, e]))
theorem rowD_set (D : List (Option De)) (i : Nat) (y : Option De) : (rowD D).setIfInBounds i (cellD y) = rowD (D.set i y) := by
  simp [rowD, List.map_set]
theorem Sd.set (h : Sd w x B n D) (i : Nat) (y : Option De) (hy : ∀ z, y = some z → z.At w B n) (hd : ∀ z, y = some z → ∀ (j : Nat) (y' : De), j ≠ i → D[j]? = some (some y') → y'.q ≠ z.q ∧ (∀ k, y'.v.ownBlock = some k → z.v.ownBlock ≠ some k)) :
    Sd (w.setCell ⟨x, i, none⟩ (cellD y)) x B n (D.set i y) ∧ Far (fun k => k = x) w (w.setCell ⟨x, i, none⟩ (cellD y)) := by
  have F : Far (fun k => k = x) w (w.setCell ⟨x, i, none⟩ (cellD y)) := Far.of_grown set_grownX (fun k _ e => by simpa using e.symm)
  have old : ∀ (j : Nat) (z : De), (D.set i y)[j]? = some (some z) → (j ≠ i ∧ D[j]? = some (some z)) ∨ (j = i ∧ y = some z) := fun j z hj => by
    by_cases hji : j = i
    · subst hji
      rw [List.getElem?_set] at hj
      simp at hj
      exact .inr ⟨rfl, hj.2⟩
    · rw [List.getElem?_set_ne (by omega)] at hj
      exact .inl ⟨hji, hj⟩
  refine ⟨⟨?_, h.old, by rw [List.length_set]; exact h.len, ?_, ?_⟩, F⟩
  · have := heap_setCell_same w x i _ 59 (cellD y) h.row
    rw [rowD_set] at this
    exact this
  · intro j z hj
    rcases old j z hj with ⟨-, h1⟩ | ⟨-, h1⟩
    · exact (h.at_ j z h1).offx h.row F
    · exact (hy z h1).offx h.row F
  · intro j k a b hj hk hjk
    rcases old j a hj with ⟨n1, h1⟩ | ⟨n1, h1⟩ <;> rcases old k b hk with ⟨n2, h2⟩ | ⟨n2, h2⟩
    · exact h.two j k a b h1 h2 hjk
    · exact hd b h2 j a n1 h1
    · have := hd a h1 k b n2 h2
      exact ⟨fun e => this.1 e.symm, fun q h3 h4 => this.2 q h4 h3⟩
    · omega
set_option maxHeartbeats 8000000 in
theorem xfind (h : Sd w x B n D) (cl : ByteArray) : Calls Try.prog 22 #[.pointer (some ⟨x, 0, none⟩), .string cl] w fun e w' => e = .returned (.tuple #[.int .i64 (fdA (fdV cl (vwD D) 0)).1, .bool (fdA (fdV cl (vwD D) 0)).2]) ∧ w = w' := by
  have H := Lib.hid h
  have hl := h.len
  clear h
  go_enter Try.func22, Try.ntmps22
  go_wp2_with fail
  go_loopw [6] (fun v wr => ∃ i : Nat, v = .int .i64 (i : Int) ∧ i ≤ 8 ∧ fdV cl (vwD D) 0 = fdV cl ((vwD D).drop i) i ∧ wr = w) (fun v _ => 8 - (intOf v).toNat)
  case atStart => exact ⟨0, rfl, by omega, rfl, rfl⟩
  case round =>
    obtain ⟨i, rfl, hi, hf, rfl⟩ := hrel
    by_cases h8 : i < 8
    · have h8' : (i : Int) < 8 := by omega
      obtain ⟨y, hy⟩ : ∃ y, D[i]? = some y := ⟨_, List.getElem?_eq_getElem (by rw [hl]; exact h8)⟩
      have c0 := H.out.cell hy
      cases y with
      | none =>
        have hf2 := Lib.hid (fd_none (by rw [vwD_get, hy]; rfl) hf)
        simp only [cellD] at c0
        clear hf
        go_wp2_with fail
        go_roundw
        case rel => exact ⟨i + 1, by simp, by omega, hf2.out, trivial⟩
        case measure => simp [intOf]; omega
      | some z =>
        have hz := H.out.at_ i z hy
        have d0 := hz.c0
        simp only [cellD] at c0
        by_cases hc : z.cl = cl
        · have hf2 := Lib.hid (fd_here (c := (z.cl, z.cn, z.l.length)) (by rw [vwD_get, hy]; rfl) hc hf)
          have hd : (z.cl.toList == cl.toList) = true := by rw [hc]; simp
          clear hf hz
          replace hc := Lib.hid hc
          go_wp2_with fail
          go_ret2
          rw [hf2.out]
          exact ⟨rfl, rfl⟩
        · have hf2 := Lib.hid (fd_not (c := (z.cl, z.cn, z.l.length)) (by rw [vwD_get, hy]; rfl) hc hf)
          have hd : (z.cl.toList == cl.toList) = false := by
            rw [beq_eq_false_iff_ne]
            exact fun e => hc (by rw [ByteArray.toList_eq, ByteArray.toList_eq] at e; exact ByteArray.ext (Array.toList_inj.1 e))
          clear hf hz
          replace hc := Lib.hid hc
          go_wp2_with fail
          go_roundw
          case rel => exact ⟨i + 1, by simp, by omega, hf2.out, trivial⟩
          case measure => simp [intOf]; omega
    · have h8' : ¬ (i : Int) < 8 := by omega
      have hf2 := Lib.hid (fd_end (V := vwD D) (by simp [vwD]; omega) hf)
      clear hf
      go_wp2_with fail
      go_ret2
      rw [hf2.out]
      exact ⟨rfl, rfl⟩
theorem xq_new (w : World) : Calls Try.prog 49 #[.int .i64 16] w fun e w' => e = .returned (.tuple #[.pointer (some ⟨w.heap.size, 0, none⟩), .int .i64 0]) ∧ w' = w.alloc (.cells #[.slice none 0 0, .int .i64 16, .int .i64 0] 95) := by
  go_enter Try.func49, Try.ntmps49
  go_wp2_with fail
  go_ret2
  exact ⟨rfl, rfl⟩
theorem alloc4 (w : World) (a b c e : Obj) : ((((w.alloc a).alloc b).alloc c).alloc e).heap[w.heap.size]? = some a ∧ ((((w.alloc a).alloc b).alloc c).alloc e).heap[w.heap.size + 1 + 1 + 1]? = some e := by
  have h1 : (w.alloc a).heap.size = w.heap.size + 1 := by simp
  have h2 : ((w.alloc a).alloc b).heap.size = w.heap.size + 1 + 1 := by simp
  have h3 : (((w.alloc a).alloc b).alloc c).heap.size = w.heap.size + 1 + 1 + 1 := by simp
  refine ⟨?_, ?_⟩
  · rw [heap_alloc_old _ _ (by omega), heap_alloc_old _ _ (by omega), heap_alloc_old _ _ (by omega)]
    exact heap_alloc_new w a
  · rw [← h3]
    exact heap_alloc_new (((w.alloc a).alloc b).alloc c) e
def XNewIs (w : World) (cl : ByteArray) (cn : Bool) (e : Ending) (w' : World) : Prop :=
  ∃ z : De, e = .returned (.tuple #[.pointer (some ⟨z.d, 0, none⟩), .int .i64 0]) ∧ z.At w' w.heap.size 0 ∧ z.cl = cl ∧ z.cn = cn ∧ z.l = [] ∧ z.v = .slice none 0 0 ∧ Below w.heap.size w w'
set_option maxHeartbeats 4000000 in
theorem xnew_ok (cl : ByteArray) (cn : Bool) (w : World) (h : okId cl) : Calls Try.prog 35 #[.string cl, .bool cn] w (XNewIs w cl cn) := by
  obtain ⟨hs, hne, hr⟩ := h
  have RA := rright_any cl w
  rw [hr] at RA
  replace RA := Lib.hid RA
  have hs' : (cl.size : Int) ≤ 32 := by omega
  replace hr := Lib.hid hr
  clear hs
  go_enter Try.func35, Try.ntmps35
  go_wp2_with fail
  refine RA.out.mono ?_
  rintro e w1 ⟨rfl, n1, rfl⟩
  clear RA
  go_wp2_with fail
  refine (xq_new _).mono ?_
  rintro e w2 ⟨rfl, rfl⟩
  go_wp2_with fail
  go_ret2
  have b4 := Lib.hid (Below.trans (ext_drewN w n1) ((((((ext_alloc (w.drewN n1) (.cells #[.slice none 0 0, .int .i64 16, .int .i64 0] 95)).alloc (by simp) (.cells #[.slice none 0 0] 113)).alloc (by simp; omega) (.cells #[.slice none 0 0] 115)).alloc (by simp; omega) (.cells #[.string cl, .bool cn, .bool false, .pointer (some ⟨(w.drewN n1).heap.size, 0, none⟩), .pointer (some ⟨(w.drewN n1).heap.size + 1, 0, none⟩), .pointer (some ⟨(w.drewN n1).heap.size + 2, 0, none⟩)] 93))).mono (Nat.le_refl _)))
  have A4 := Lib.hid (alloc4 (w.drewN n1) (.cells #[.slice none 0 0, .int .i64 16, .int .i64 0] 95) (.cells #[.slice none 0 0] 113) (.cells #[.slice none 0 0] 115) (.cells #[.string cl, .bool cn, .bool false, .pointer (some ⟨(w.drewN n1).heap.size, 0, none⟩), .pointer (some ⟨(w.drewN n1).heap.size + 1, 0, none⟩), .pointer (some ⟨(w.drewN n1).heap.size + 2, 0, none⟩)] 93))
  refine ⟨⟨w.heap.size + 1 + 1 + 1, w.heap.size, w.heap.size + 1, w.heap.size + 1 + 1, .slice none 0 0, cl, cn, [], 0⟩, by simp, ⟨?_, ⟨?_, World.ownsRow_nil _ _ _ _⟩, Nat.le_refl _, by simp, by simp, by simp⟩, rfl, rfl, rfl, rfl, by simpa using b4.out⟩
  · simpa using A4.out.2
  · simpa using A4.out.1
set_option maxHeartbeats 4000000 in
theorem xnew_bad (cl : ByteArray) (cn : Bool) (w : World) (h : cl.size = 0 ∨ 32 < cl.size ∨ rightB cl = false) (hz : cl.size ≤ 140737488351232) : Calls Try.prog 35 #[.string cl, .bool cn] w fun e w' => e = .returned (.tuple #[.pointer none, .int .i64 1]) ∧ Below w.heap.size w w' := by
  by_cases h0 : cl.size = 0
  · have he : cl = ⟨#[]⟩ := by
      obtain ⟨⟨l⟩⟩ := cl
      cases l with
      | nil => rfl
      | cons a l => simp [ByteArray.size] at h0
    subst he
    go_enter Try.func35, Try.ntmps35
    go_wp2_with fail
    go_ret2
    exact ⟨rfl, Below.refl _ _⟩
  have hne : cl.toList.isEmpty = false := by
    rw [ByteArray.toList_eq]
    obtain ⟨⟨l⟩⟩ := cl
    cases l with
    | nil => simp [ByteArray.size] at h0
    | cons a l => rfl
  by_cases h32 : 32 < cl.size
  · have h' : (32 : Int) < (cl.size : Int) := by omega
    clear h h0
    go_enter Try.func35, Try.ntmps35
    go_wp2_with fail
    go_ret2
    exact ⟨rfl, Below.refl _ _⟩
  · have h' : ¬ (32 : Int) < (cl.size : Int) := by omega
    have hr : rightB cl = false := (h.resolve_left h0).resolve_left h32
    have RA := rright_any cl w
    rw [hr] at RA
    replace RA := Lib.hid RA
    clear h h0 hr
    go_enter Try.func35, Try.ntmps35
    go_wp2_with fail
    refine RA.out.mono ?_
    rintro e w1 ⟨rfl, n1, rfl⟩
    go_wp2_with fail
    go_ret2
    exact ⟨rfl, ext_drewN w n1⟩
/-- What Open leaves. -/
def OpdL (cl : ByteArray) (cn : Bool) (D : List (Option De)) : Option Nat → List (Option De) → Prop
  | none, D' => D' = D
  | some i, D' => i < 8 ∧ ∃ z : De, z.cl = cl ∧ z.cn = cn ∧ z.l = [] ∧ D' = D.set i (some z)
def XOpenIs (w : World) (x B : Nat) (n : Int) (D : List (Option De)) (cl : ByteArray) (cn : Bool) (e : Ending) (w' : World) : Prop :=
  e = .returned (.tuple #[.int .i64 (opV cl cn (vwD D)).1, .bool (opV cl cn (vwD D)).2.1, .int .i64 (opV cl cn (vwD D)).2.2.1]) ∧ Far (fun k => k = x) w w' ∧ ∃ D', Sd w' x B n D' ∧ OpdL cl cn D (opV cl cn (vwD D)).2.2.2 D'
theorem Sd.fresh (h : Sd w x B n D) (hn : 0 ≤ n) {cl : ByteArray} {cn : Bool} {z : De} {w1 : World} (hz : z.At w1 w.heap.size 0) (h1 : z.cl = cl) (h2 : z.cn = cn) (h3 : z.l = []) (h4 : z.v = .slice none 0 0) (hb : Below w.heap.size w w1) {i : Nat} (h8 : i < 8) (hB : B ≤ w.heap.size) :
    Far (fun k => k = x) w (w1.setCell ⟨x, i, none⟩ (.pointer (some ⟨z.d, 0, none⟩))) ∧ ∃ D', Sd (w1.setCell ⟨x, i, none⟩ (.pointer (some ⟨z.d, 0, none⟩))) x B n D' ∧ OpdL cl cn D (some i) D' := by
  have S := (h.ext hb).set i (some z) (fun y e => by simp at e; subst e; exact (hz.base hB).more hn) (fun y e j y' hj hy => by
    simp at e
    subst e
    have hq := (h.at_ j y' hy).xq.lt
    have := hz.old
    exact ⟨by omega, fun k _ e => by rw [h4] at e; cases e⟩)
  exact ⟨(Far.of_ext hb).trans S.2 (fun k _ hk => hk), D.set i (some z), S.1, h8, z, h1, h2, h3, rfl⟩
set_option maxHeartbeats 8000000 in
theorem xopen (h : Sd w x B n D) (hn : 0 ≤ n) (cl : ByteArray) (cn : Bool) (hz : cl.size ≤ 140737488351232) (hB : B ≤ w.heap.size) : Calls Try.prog 19 #[.pointer (some ⟨x, 0, none⟩), .string cl, .bool cn] w (XOpenIs w x B n D cl cn) := by
  by_cases hok : okId cl
  · have NW := Lib.hid (xnew_ok cl cn w hok)
    have H := Lib.hid h
    have hl := h.len
    clear h hz
    go_enter Try.func19, Try.ntmps19
    go_wp2_with fail
    refine NW.out.mono ?_
    rintro e w1 ⟨z, rfl, hz1, hz2, hz3, hz4, hz5, b1⟩
    have FR := Lib.hid (fun (i : Nat) (h8 : i < 8) => H.out.fresh hn hz1 hz2 hz3 hz4 hz5 b1 h8 hB)
    have H1 := Lib.hid (H.out.ext b1)
    have FD := Lib.hid (xfind H1.out cl)
    replace b1 := Lib.hid b1
    clear NW hz1 hz2 hz3 hz4 hz5
    cases hfd : fdV cl (vwD D) 0 with
    | some y =>
      obtain ⟨i, c⟩ := y
      obtain ⟨-, m, hi⟩ := fdV_some hfd
      simp only [Nat.sub_zero] at hi
      rw [vwD_get] at hi
      obtain ⟨y, hy⟩ : ∃ y, D[i]? = some (some y) := by
        cases hD : D[i]? with
        | none => rw [hD] at hi; cases hi
        | some y =>
          cases y with
          | none => rw [hD] at hi; cases hi
          | some y => exact ⟨y, rfl⟩
      rw [hy] at hi
      have hcn : y.cn = c := by simp at hi; exact hi.2.1
      have h8 : i < 8 := by have := (List.getElem?_eq_some_iff.1 hy).1; omega
      have h8' : (i : Int) < 8 := by omega
      have c0 := H1.out.cell hy
      have d1 := (H1.out.at_ i y hy).c1
      have fz := H1.out.fz i
      simp only [cellD] at c0
      rw [hcn] at d1
      rw [hfd] at FD
      simp only [fdA] at FD
      by_cases hc : (cn || c) = true
      · have hr : opV cl cn (vwD D) = ((i : Int), false, 0, some i) := by unfold opV; rw [if_pos hok, hfd]; simp only; rw [if_pos hc]
        have hcc : cn = true ∨ (cn = false ∧ c = true) := by cases cn <;> simp_all
        have FR' := Lib.hid (FR.out i h8)
        clear FR hi hcn hfd hc
        rcases hcc with rfl | ⟨rfl, rfl⟩
        all_goals
          go_wp2_with fail
          refine FD.out.mono ?_
          rintro e w2 ⟨rfl, rfl⟩
          go_wp2_with fail
          go_loopw [13, 11, 12] (fun v s b wr => v = .int .i64 0 ∧ s = .int .i64 (i : Int) ∧ b = .bool true ∧ wr = w1) (fun _ _ _ _ => 0)
          case atStart => exact ⟨rfl, rfl, rfl, rfl⟩
          case round =>
            obtain ⟨rfl, rfl, rfl, rfl⟩ := hrel
            go_wp2_with fail
            go_ret3
            unfold XOpenIs
            rw [hr]
            exact ⟨rfl, FR'.out⟩
      · have hcn0 : cn = false := by cases cn <;> simp at hc ⊢
        have hc0 : c = false := by cases c <;> simp at hc ⊢
        subst hcn0 hc0
        have hr : opV cl false (vwD D) = ((i : Int), true, 0, none) := by unfold opV; rw [if_pos hok, hfd]; rfl
        clear FR hi hcn hfd hc
        go_wp2_with fail
        refine FD.out.mono ?_
        rintro e w2 ⟨rfl, rfl⟩
        go_wp2_with fail
        go_ret3
        unfold XOpenIs
        rw [hr]
        exact ⟨rfl, Far.of_ext b1.out, D, H1.out, rfl⟩
    | none =>
      rw [hfd] at FD
      simp only [fdA] at FD
      have HF := Lib.hid hfd
      clear hfd
      go_wp2_with fail
      refine FD.out.mono ?_
      rintro e w2 ⟨rfl, rfl⟩
      clear FD
      go_wp2_with fail
      go_loopw [13, 11, 12] (fun v s b wr => wr = w1 ∧ ((∃ j : Nat, v = .int .i64 (j : Int) ∧ j ≤ 8 ∧ s = .int .i64 0 ∧ b = .bool false ∧ frW (vwD D) 0 = frW ((vwD D).drop j) j) ∨ (∃ i : Nat, v = .int .i64 ((i : Int) + 1) ∧ i < 8 ∧ s = .int .i64 (i : Int) ∧ b = .bool true ∧ frW (vwD D) 0 = some i))) (fun v _ _ _ => 9 - (intOf v).toNat)
      case atStart => exact ⟨rfl, .inl ⟨0, rfl, by omega, rfl, rfl, rfl⟩⟩
      case round =>
        obtain ⟨rfl, ⟨j, rfl, hj, rfl, rfl, hf⟩ | ⟨i, rfl, h8, rfl, rfl, hf⟩⟩ := hrel
        · by_cases h8 : j < 8
          · have h8' : (j : Int) < 8 := by omega
            obtain ⟨y, hy⟩ : ∃ y, D[j]? = some y := ⟨_, List.getElem?_eq_getElem (by omega)⟩
            have c0 := H1.out.cell hy
            cases y with
            | none =>
              have hf2 := Lib.hid (fr_hereV (by rw [vwD_get, hy]; rfl) hf)
              simp only [cellD] at c0
              clear hf
              go_wp2_with fail
              go_roundw
              case rel => exact ⟨trivial, .inr ⟨j, by simp, h8, rfl, rfl, hf2.out⟩⟩
              case measure => simp [intOf]; omega
            | some y =>
              have hf2 := Lib.hid (fr_not (c := (y.cl, y.cn, y.l.length)) (by rw [vwD_get, hy]; rfl) hf)
              simp only [cellD] at c0
              clear hf
              go_wp2_with fail
              go_roundw
              case rel => exact ⟨trivial, .inl ⟨j + 1, by simp, by omega, rfl, rfl, hf2.out⟩⟩
              case measure => simp [intOf]; omega
          · have h8' : ¬ (j : Int) < 8 := by omega
            have hf2 := fr_endV (V := vwD D) (by simp [vwD]; omega) hf
            have hr : opV cl cn (vwD D) = (0, false, 6, none) := by unfold opV; rw [if_pos hok, HF.out, hf2]
            replace hr := Lib.hid hr
            clear hf hf2
            go_wp2_with fail
            go_ret3
            unfold XOpenIs
            rw [hr.out]
            exact ⟨rfl, Far.of_ext b1.out, D, H1.out, rfl⟩
        · have hr : opV cl cn (vwD D) = ((i : Int), false, 0, some i) := by unfold opV; rw [if_pos hok, HF.out, hf]
          replace hr := Lib.hid hr
          have h8' : (i : Int) < 8 := by omega
          obtain ⟨y, hy⟩ : ∃ y, D[i]? = some y := ⟨_, List.getElem?_eq_getElem (by omega)⟩
          have c0 := H1.out.cell hy
          have fz := H1.out.fz i
          have FR' := Lib.hid (FR.out i h8)
          clear hf FR
          go_wp2_with fail
          all_goals
            go_ret3
            unfold XOpenIs
            rw [hr.out]
            exact ⟨rfl, FR'.out⟩
  · have hr : opV cl cn (vwD D) = (0, false, 1, none) := by unfold opV; rw [if_neg hok]
    have NW := Lib.hid (xnew_bad cl cn w (notOk hok) hz)
    have H := Lib.hid h
    replace hr := Lib.hid hr
    clear h hz hok
    go_enter Try.func19, Try.ntmps19
    go_wp2_with fail
    refine NW.out.mono ?_
    rintro e w1 ⟨rfl, b1⟩
    replace b1 := Lib.hid b1
    go_wp2_with fail
    go_ret3
    unfold XOpenIs
    rw [hr.out]
    exact ⟨rfl, Far.of_ext b1.out, D, H.out.ext b1.out, rfl⟩
/-- The session of a place. -/
def plD (D : List (Option De)) (i : Int) : Option De := if 0 ≤ i then D.getD i.toNat none else none
theorem plD_in {i : Nat} {y : Option De} (h : D[i]? = some y) : plD D (i : Int) = y := by simp [plD, h]
def drD (i : Int) (D : List (Option De)) : List (Option De) := if 0 ≤ i then D.set i.toNat none else D
set_option maxHeartbeats 8000000 in
theorem xdrop (h : Sd w x B n D) (i : Int) : Calls Try.prog 20 #[.pointer (some ⟨x, 0, none⟩), .int .i64 i] w fun e w' => e = .returned (.bool (plD D i).isSome) ∧ Sd w' x B n (drD i D) ∧ Far (fun k => k = x) w w' := by
  have hl := h.len
  by_cases h0 : i < 0
  · have e1 : plD D i = none := by rw [plD, if_neg (by omega)]
    have e2 : drD i D = D := by rw [drD, if_neg (by omega)]
    rw [e1, e2]
    replace h := Lib.hid h
    clear e1 e2
    go_enter Try.func20, Try.ntmps20
    go_wp2_with fail
    go_ret
    exact ⟨rfl, h.out, Far.refl _ _⟩
  · obtain ⟨j, rfl⟩ := Int.eq_ofNat_of_zero_le (show 0 ≤ i by omega)
    have h0' : ¬ (j : Int) < 0 := by omega
    have e2 : drD (j : Int) D = D.set j none := by simp [drD]
    rw [e2]
    by_cases h8 : j < 8
    · have h8' : (j : Int) < 8 := by omega
      obtain ⟨y, hy⟩ : ∃ y, D[j]? = some y := ⟨_, List.getElem?_eq_getElem (by omega)⟩
      rw [plD_in hy]
      have c0 := h.cell hy
      have fz := h.fz j
      cases y with
      | none =>
        rw [set_same hy]
        simp only [cellD] at c0
        replace h := Lib.hid h
        clear h0 e2
        go_enter Try.func20, Try.ntmps20
        go_wp2_with fail
        go_ret
        exact ⟨rfl, h.out, Far.refl _ _⟩
      | some y =>
        have S := Lib.hid (h.set j none (fun z e => by cases e) (fun z e => by cases e))
        simp only [cellD] at c0
        clear h0 e2 h hy
        go_enter Try.func20, Try.ntmps20
        go_wp2_with fail
        go_ret
        exact ⟨rfl, S.out⟩
    · have h8' : ¬ (j : Int) < 8 := by omega
      have e1 : plD D (j : Int) = none := by
        rw [plD, if_pos (by omega), List.getD_eq_getElem?_getD, List.getElem?_eq_none (by simp; omega)]
        rfl
      rw [e1, List.set_eq_of_length_le (by omega)]
      replace h := Lib.hid h
      clear e1 e2
      go_enter Try.func20, Try.ntmps20
      go_wp2_with fail
      go_ret
      exact ⟨rfl, h.out, Far.refl _ _⟩
end Go.Proofs.Ytdcfenkllpfbaaa.Sns

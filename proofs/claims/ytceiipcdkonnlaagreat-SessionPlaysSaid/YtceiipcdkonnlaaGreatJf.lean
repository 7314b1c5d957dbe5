/-
  LAYER 24: contracts of All and Clear; rows of numbers one behind the other.
-/
import Derived.Test.YtceiipcdkonnlaaGreatJd
import Derived.Laws.AppendOwnNone
namespace Go.Proofs.YtceiipcdkonnlaaGreat.Inb
set_option linter.unusedSimpArgs false
set_option linter.unusedVariables false
open Go.RowKit
theorem info3i : (Tryz.prog.info? 3).map (fun i => (i.zero, i.size, i.bytes)) = some (some (.int .i64 0), 1, 8) := by kernel_rfl
def il (l : List Int) : List Value := l.map (Value.int .i64)
def OwnsInts (B : Nat) (l : List Int) (w : World) (e : Ending) (w' : World) : Prop :=
  ∃ v, e = .returned v ∧ w'.ownsRow B 3 1 v l.length (il l) ∧ v ≠ .slice none 0 0 ∧ Below w.heap.size w w'

set_option maxRecDepth 100000 in
theorem clone_any (g o cap : Nat) (l : List Int) (w : World) (hl : l.length ≤ 16) (hg : g < w.heap.size)
    (hc : ∀ i, i < l.length → w.cell? ⟨g, o + i, none⟩ = some (.int .i64 (l.getD i 0))) :
    Calls Tryz.prog 77 #[.slice (some ⟨g, o, none⟩) l.length cap] w (OwnsInts w.heap.size l w) := by
  obtain ⟨i0, hi, hz0, hz1, hz2⟩ := info_parts info3i
  have hq := fun (w : World) => Lib.run_eql_slice_nil (P := Tryz.prog) w 59 3 (some ⟨g, o, none⟩) l.length cap 0 0 Tryz.underlying59
  have hown0 : (w.alloc (.cells #[] 3)).ownsRow w.heap.size 3 1 (.slice (some ⟨w.heap.size, 0, none⟩) 0 0) 0 [] := World.ownsRow_lit w #[] 0 (Nat.le_refl _) (by unfold maxLen; omega) rfl
  have hnews : ∀ j u, (il l)[j]? = some u → (w.alloc (.cells #[] 3)).cell? ((⟨g, o, none⟩ : Addr).add j) = some u := by
    intro j u hj
    have hjl : j < l.length := by have := (List.getElem?_eq_some_iff.1 hj).1; simpa [il] using this
    have hadd : (⟨g, o, none⟩ : Addr).add j = ⟨g, o + j, none⟩ := by unfold Addr.add; split <;> simp_all
    rw [hadd, World.cell?_alloc_past _ _ _ hg, hc j hjl]
    simp [il, List.getElem?_eq_getElem hjl] at hj
    rw [← hj]
    simp [List.getD, hjl]
  have HC := Lib.hid hc
  clear hc
  go_enter Tryz.func77, Tryz.ntmps77
  go_wp2_with (first
    | (at_builtin; go_must (refine wpList_append_own _ rfl (.tmp 5) (.tmp 6) 59 rfl w.heap.size 3 i0 (.int .i64 0) 1 8 Tryz.underlying59 hi hz0 hz1 hz2 rfl (by decide) _ _ _ rfl hown0 ⟨g, o, none⟩ l.length cap (il l) rfl (by simp [il]) hnews (by intro u hu; simp only [il, List.mem_map] at hu; obtain ⟨x, _, rfl⟩ := hu; rfl) (by unfold maxLen; omega) (by omega) (by simp) ?_); intro v1 w1 hown1 hgrow1 hnil1))
  go_ret
  refine ⟨v1, rfl, by simpa using hown1, (fun h => by cases (hnil1.1 h).1), ?_⟩
  exact (ext_alloc w (.cells #[] 3)).trans ((Below.refl _ _).grown hgrow1 (by simp) (fun k hk => (hown0.lt k hk).1))

set_option maxRecDepth 100000 in
theorem all_any (g n : Nat) (xs : List Int) (w : World) (h : Box w g xs n) :
    Calls Tryz.prog 56 #[.pointer (some ⟨g, 0, none⟩)] w (OwnsInts w.heap.size (xs.take n) w) := by
  have c0 := h.made
  have c1W := h.count
  have hn := h.le
  have hl : (xs.take n).length = n := by rw [List.length_take, h.len]; omega
  have hcl := clone_any g 2 16 (xs.take n) w.drew (by omega) h.lt (fun i hi => by
    rw [hl] at hi
    have := h.cell i (by omega)
    rw [show w.drew.cell? ⟨g, 2 + i, none⟩ = w.cell? ⟨g, 2 + i, none⟩ from rfl, this]
    simp [hi])
  rw [hl] at hcl
  have HCL := Lib.hid hcl
  have al := alen97
  have hn' : (n : Int) ≤ 16 := by omega
  clear h hl hcl
  go_enter Tryz.func56, Tryz.ntmps56
  go_wp2
  go_still_tail 8, (by kernel_rfl)
  go_wp2_with (go_at_call 77; refine HCL.out.mono ?_; rintro e w1 ⟨v, rfl, hown, hnn, hb⟩)
  go_ret
  exact ⟨v, rfl, hown, hnn, ext_trans (ext_drew w) hb⟩
end Go.Proofs.YtceiipcdkonnlaaGreat.Inb

/-
  LAYER 24: the document's inbox: Come.
-/
namespace Go.Proofs.YtceiipcdkonnlaaGreat.Inb
open Go.RowKit
set_option linter.unusedSimpArgs false
set_option linter.unusedVariables false
theorem grown_below {a b : World} {m B : Nat} (h : Below B a b) (hB : a.heap.size ≤ B) : a.grownBy b (some m) :=
  ⟨h.os, h.tape, h.output, h.size, fun i hi _ => h.block i (Nat.lt_of_lt_of_le hi hB)⟩
theorem setRow {w : World} {g j : Nat} {cs : Array Value} {t : TypeId} (h : w.heap[g]? = some (.cells cs t (0, 0))) (u : Value) : (w.setCell ⟨g, j, none⟩ u).heap[g]? = some (.cells (cs.setIfInBounds j u) t (0, 0)) := heap_setCell_same w g j cs t u h

/-- The document's inbox in block g. -/
structure Xb (w : World) (g : Nat) (v : Value) (l : List Int) : Prop where
  row : w.heap[g]? = some (.cells #[v] 61 (0, 0))
  its : w.ownsRow 0 3 1 v l.length (il l)
theorem Xb.lt {w : World} {g : Nat} {v : Value} {l : List Int} (h : Xb w g v l) : g < w.heap.size := (Array.getElem?_eq_some_iff.1 h.row).1
theorem Xb.keep {w w' : World} {g : Nat} {v : Value} {l : List Int} (h : Xb w g v l) (hb : Below w.heap.size w w') : Xb w' g v l := ⟨(hb.block g h.lt).trans h.row, own_keep h.its hb⟩
theorem Xb.cell {w : World} {g : Nat} {v : Value} {l : List Int} (h : Xb w g v l) : w.cell? ⟨g, 0, none⟩ = some v := by
  rw [cell_of_row w g 0 _ 61 (0, 0) h.row]; simp
theorem Xb.free {w : World} {g : Nat} {v : Value} {l : List Int} (h : Xb w g v l) (j : Nat) : w.frozen? ⟨g, j, none⟩ = false := frozen_of_row w g j _ 61 h.row
theorem own_int {w : World} {gl n c : Nat} {l : List Int} (h : w.ownsRow 0 3 1 (.slice (some ⟨gl, 0, none⟩) n c) l.length (il l)) {j : Nat} (hj : j < l.length) : w.cell? ⟨gl, j, none⟩ = some (.int .i64 (l.getD j 0)) := by
  have hn : n = l.length := by
    rcases h.2 with ⟨h, -⟩ | ⟨g, cap, cur, h, _⟩
    · cases h
    · simp only [Value.slice.injEq] at h; exact h.2.1
  subst hn
  rw [h.cellAt _ (by simpa [il] using hj)]
  simp [il, List.getD, List.getElem?_eq_getElem hj]
theorem own_slice' {w : World} {B e size n : Nat} {v : Value} {xs : List Value} (h : w.ownsRow B e size v n xs) (hn : 0 < n) : ∃ g c, v = .slice (some ⟨g, 0, none⟩) n c := by
  rcases h.2 with ⟨rfl, rfl⟩ | ⟨g, cap, cur, rfl, _⟩
  · omega
  · exact ⟨_, _, rfl⟩
theorem il_one (l : List Int) : ∀ u ∈ il l, u.oneCell' = true := fun u hu => by
  simp only [il, List.mem_map] at hu
  obtain ⟨x, _, rfl⟩ := hu
  rfl
theorem own_il {w : World} {B : Nat} {v : Value} {l m : List Int} {n : Nat} (h : w.ownsRow B 3 1 v n (il l)) (hn : n = m.length) (hl : l = m) : w.ownsRow 0 3 1 v m.length (il m) := by
  subst hl hn
  exact own_base h (Nat.zero_le _)
theorem cell_new (w : World) (t : Int) : ∀ j u, [Value.int .i64 t][j]? = some u → (w.alloc (.cells #[.int .i64 t] 3)).cell? ((⟨w.heap.size, 0, none⟩ : Addr).add j) = some u := by
  intro j u hj
  cases j with
  | zero =>
    simp only [List.getElem?_cons_zero, Option.some.injEq] at hj
    subst hj
    simp [Addr.add]
  | succ j => simp at hj
theorem xstore {w w2 : World} {g : Nat} {v : Value} {l : List Int} (H : Xb w g v l) (b : Below w.heap.size w w2) {v2 : Value} {m : List Int} (o : w2.ownsRow 0 3 1 v2 m.length (il m)) :
    Xb (w2.setCell ⟨g, 0, none⟩ v2) g v2 m ∧ w.grownBy (w2.setCell ⟨g, 0, none⟩ v2) (some g) := by
  have r := (b.block g H.lt).trans H.row
  have G : w2.grownBy (w2.setCell ⟨g, 0, none⟩ v2) (some g) := set_grown _
  refine ⟨⟨?_, own_grown o r (by decide) G⟩, grown_trans (grown_below b (Nat.le_refl _)) G⟩
  have := setRow r (j := 0) v2
  simpa using this
theorem src_at {w W : World} {gl n c : Nat} {l : List Int} (h : w.ownsRow 0 3 1 (.slice (some ⟨gl, 0, none⟩) n c) l.length (il l)) (hb : Below w.heap.size w W) (m : List Int) (o : Nat) (hm : ∀ j x, m[j]? = some x → l[o + j]? = some x) :
    ∀ j u, (il m)[j]? = some u → W.cell? ((⟨gl, o, none⟩ : Addr).add j) = some u := by
  intro j u hj
  obtain ⟨x, hx, rfl⟩ : ∃ x, m[j]? = some x ∧ Value.int .i64 x = u := by simpa [il] using hj
  have hl := hm j x hx
  have hlt := (List.getElem?_eq_some_iff.1 hl).1
  have := own_int h hlt
  rw [show (⟨gl, o, none⟩ : Addr).add j = ⟨gl, o + j, none⟩ from by unfold Addr.add; split <;> simp_all, hb.cell (by simpa using (h.lt gl rfl).2), this]
  simp [List.getD, hl]
/-- Where the search for the place stands. -/
structure CR (l : List Int) (t : Int) (k i : Nat) : Prop where
  ki : k ≤ i
  il' : i ≤ l.length
  ne : ∀ j, j < i → l.getD j 0 ≠ t
  lo : ∀ j, j < k → l.getD j 0 < t
  hi : ∀ j, k ≤ j → j < i → t ≤ l.getD j 0
def XCome (t : Int) (l : List Int) (g : Nat) (w : World) (e : Ending) (w' : World) : Prop :=
  (t ∈ l ∧ e = .returned (.tuple #[.bool false, .int .i64 0]) ∧ w = w') ∨
  (t ∉ l ∧ 16 ≤ l.length ∧ e = .returned (.tuple #[.bool false, .int .i64 6]) ∧ w = w') ∨
  (t ∉ l ∧ l.length < 16 ∧ e = .returned (.tuple #[.bool true, .int .i64 0]) ∧ (∃ v', Xb w' g v' (l.take (posOf t l) ++ t :: l.drop (posOf t l)) ∧ ∀ k, v'.ownBlock = some k → w.heap.size ≤ k) ∧ w.grownBy w' (some g))
theorem CR.pos {l : List Int} {t : Int} {k : Nat} (h : CR l t k l.length) (hs : Sorted l) : k = posOf t l := pos_one ⟨h.ki, h.lo, fun j hj hl => h.hi j hj hl⟩ (pos_of t l hs)
theorem CR.out {l : List Int} {t : Int} {k : Nat} (h : CR l t k l.length) : t ∉ l := fun hm => by
  obtain ⟨j, hj, e⟩ := List.mem_iff_getElem.1 hm
  exact h.ne j hj (by simp [List.getD, List.getElem?_eq_getElem hj, e])
theorem xcome_bad {w : World} (g : Nat) (t : Int) (h : t < 1 ∨ 65535 < t) :
    Calls Tryz.prog 25 #[.pointer (some ⟨g, 0, none⟩), .int .i64 t] w fun e w' => e = .returned (.tuple #[.bool false, .int .i64 1]) ∧ w = w' := by
  by_cases h1 : t < 1
  · go_enter Tryz.func25, Tryz.ntmps25
    go_wp2
    go_ret2
    exact ⟨rfl, rfl⟩
  · have h2 : 65535 < t := by omega
    clear h
    go_enter Tryz.func25, Tryz.ntmps25
    go_wp2
    go_ret2
    exact ⟨rfl, rfl⟩
set_option maxHeartbeats 4000000 in
set_option maxRecDepth 100000 in
theorem xcome_any {w : World} {g : Nat} {v : Value} {l : List Int} {t : Int} (h : Xb w g v l) (hs : Sorted l) (h0 : 1 ≤ t) (h1 : t ≤ 65535) (hl : l.length ≤ 16) :
    Calls Tryz.prog 25 #[.pointer (some ⟨g, 0, none⟩), .int .i64 t] w (XCome t l g w) := by
  obtain ⟨i0, hi, hz0, hz1, hz2⟩ := info_parts info3i
  obtain ⟨va, vc, rfl⟩ := own_slice h.its
  have c0 := h.cell
  have H := Lib.hid h
  have HS := Lib.hid hs
  have hl' : (l.length : Int) ≤ 16 := by omega
  clear h hs
  go_enter Tryz.func25, Tryz.ntmps25
  go_wp2_with fail
  go_loop [6, 7] (fun kv iv => ∃ k i : Nat, kv = .int .i64 (k : Int) ∧ iv = .int .i64 (i : Int) ∧ CR l t k i) (fun _ iv => l.length - (intOf iv).toNat)
  case atStart => exact ⟨0, 0, rfl, rfl, ⟨by omega, by omega, by omega, by omega, by omega⟩⟩
  case round =>
    obtain ⟨k, i, rfl, rfl, hr⟩ := hrel
    have hki := hr.ki
    have hil := hr.il'
    by_cases hlt : i < l.length
    · obtain ⟨gl, gc, hva⟩ := own_slice' H.out.its (by omega)
      simp only [Value.slice.injEq] at hva
      obtain ⟨rfl, -, rfl⟩ := hva
      have hlt' : (i : Int) < l.length := by omega
      have hcell := own_int H.out.its hlt
      obtain ⟨c, hcd⟩ : ∃ c, c = l.getD i 0 := ⟨_, rfl⟩
      rw [← hcd] at hcell
      replace hcd := Lib.hid hcd
      replace hr := Lib.hid hr
      by_cases hct : c = t
      · subst hct
        go_wp2_with fail
        go_ret2
        exact .inl ⟨by rw [hcd.out]; simp [List.getD, List.getElem?_eq_getElem hlt], rfl, rfl⟩
      · have hb : (c == t) = false := beq_eq_false_iff_ne.2 hct
        by_cases hcl : c < t
        · go_wp2_with fail
          go_round
          case rel => exact ⟨i + 1, i + 1, by simp, by simp, ⟨by omega, by omega, fun j hj => by
            by_cases hji : j = i
            · subst hji; rw [← hcd.out]; exact hct
            · exact hr.out.ne j (by omega), fun j hj => by
            by_cases hji : j = i
            · subst hji; rw [← hcd.out]; exact hcl
            · have := HS.out j i (by omega) hlt; rw [← hcd.out] at this; omega, by omega⟩⟩
          case measure => simp [intOf]; omega
        · go_wp2_with fail
          go_round
          case rel => exact ⟨k, i + 1, rfl, by simp, ⟨by omega, by omega, fun j hj => by
            by_cases hji : j = i
            · subst hji; rw [← hcd.out]; exact hct
            · exact hr.out.ne j (by omega), hr.out.lo, fun j hj hj2 => by
            by_cases hji : j = i
            · subst hji; rw [← hcd.out]; omega
            · exact hr.out.hi j hj (by omega)⟩⟩
          case measure => simp [intOf]; omega
    · obtain rfl : i = l.length := by omega
      have hp := hr.pos HS.out
      have ho := hr.out
      clear hr hlt
      by_cases hf : 16 ≤ l.length
      · have hf' : (16 : Int) ≤ l.length := by omega
        replace ho := Lib.hid ho
        replace hp := Lib.hid hp
        go_wp2_with fail
        go_ret2
        exact .inr (.inl ⟨ho.out, hf, rfl, rfl⟩)
      · have hf' : (l.length : Int) < 16 := by omega
        replace ho := Lib.hid ho
        replace hp := Lib.hid hp
        rcases H.out.its.2 with ⟨hv, hn⟩ | ⟨gl, cap, cur, hv, -, -, hnc, -⟩
        · simp only [Value.slice.injEq] at hv
          obtain ⟨rfl, -, rfl⟩ := hv
          obtain rfl : l = [] := List.eq_nil_of_length_eq_zero hn
          obtain rfl : k = 0 := by simpa using hki
          have hlt := H.out.lt
          have c1 : (w.alloc (.cells #[] 3)).cell? ⟨g, 0, none⟩ = some (.slice none 0 0) := ((ext_alloc w _).cell (by simpa using hlt)).trans c0
          have hown0 : (w.alloc (.cells #[] 3)).ownsRow w.heap.size 3 1 (.slice (some ⟨w.heap.size, 0, none⟩) 0 0) 0 [] := World.ownsRow_lit w #[] 0 (Nat.le_refl _) (by unfold maxLen; omega) rfl
          have hown1 := own_keep hown0 (ext_alloc _ (.cells #[.int .i64 t] 3))
          have hsz : (w.alloc (.cells #[] 3)).heap.size = w.heap.size + 1 := by simp
          have hnew := cell_new (w.alloc (.cells #[] 3)) t
          rw [hsz] at hnew
          replace hnew := Lib.hid hnew
          replace hown1 := Lib.hid hown1
          replace hown0 := Lib.hid hown0
          go_wp2_with (first
            | (at_builtin; refine wpList_append_own_none rfl (.tmp 50) (.tmp 56) 59 rfl w.heap.size 3 i0 1 Tryz.underlying59 hi (.slice (some ⟨w.heap.size, 0, none⟩) 0 0) _ _ rfl hown0.out rfl ?_)
            | (at_builtin; refine wpList_append_own _ rfl (.tmp 58) (.tmp 60) 59 rfl w.heap.size 3 i0 (.int .i64 0) 1 8 Tryz.underlying59 hi hz0 hz1 hz2 rfl (by decide) (.slice (some ⟨w.heap.size, 0, none⟩) 0 0) 0 [] rfl hown1.out ⟨w.heap.size + 1, 0, none⟩ 1 1 [.int .i64 t] rfl rfl hnew.out (by intro u hu; simp at hu; subst hu; rfl) (by unfold maxLen; omega) (by omega) (by simp; omega) ?_; intro v2 w2 o2 g2 _; obtain ⟨va2, vc2, rfl⟩ := own_slice o2; have b2 : Below w.heap.size w w2 := (ext_two w _ _).grown g2 (by simp; omega) (fun k hk => (hown1.out.lt k hk).1); have c2 := (b2.cell (by simpa using hlt)).trans c0; have f2 := (H.out.keep b2).free 0; replace o2 := Lib.hid o2; replace b2 := Lib.hid b2; clear g2)
            | (at_builtin; refine wpList_append_own_none rfl (.tmp 62) (.tmp 68) 59 rfl w.heap.size 3 i0 1 Tryz.underlying59 hi (.slice va2 1 vc2) _ _ rfl o2.out rfl ?_))
          go_ret2
          have o3 : w2.ownsRow 0 3 1 (.slice va2 1 vc2) 1 (il [t]) := own_base o2.out (Nat.zero_le _)
          obtain ⟨X, G⟩ := xstore H.out b2.out (m := [t]) o3
          exact .inr (.inr ⟨ho.out, by simp, rfl, ⟨_, by rw [← hp.out]; exact X, fun k hk => (o2.out.lt k hk).1⟩, G⟩)
        · simp only [Value.slice.injEq] at hv
          obtain ⟨rfl, -, rfl⟩ := hv
          have hlt := H.out.lt
          have c1 : (w.alloc (.cells #[] 3)).cell? ⟨g, 0, none⟩ = some (.slice (some ⟨gl, 0, none⟩) l.length vc) := ((ext_alloc w _).cell (by simpa using hlt)).trans c0
          have hown0 : (w.alloc (.cells #[] 3)).ownsRow w.heap.size 3 1 (.slice (some ⟨w.heap.size, 0, none⟩) 0 0) 0 [] := World.ownsRow_lit w #[] 0 (Nat.le_refl _) (by unfold maxLen; omega) rfl
          have hk' : (k : Int) ≤ l.length := by omega
          have hs1 := src_at H.out.its (ext_alloc w (.cells #[] 3)) (l.take k) 0 (fun j x hx => by
            have := (List.getElem?_eq_some_iff.1 hx).1
            rw [Nat.zero_add]
            rw [List.getElem?_take] at hx
            split at hx
            · exact hx
            · cases hx)
          have hlk : (l.take k).length = k := by rw [List.length_take]; omega
          have hkc : k ≤ vc := by omega
          have hkc' : (k : Int) ≤ vc := by omega
          replace hs1 := Lib.hid hs1
          replace hown0 := Lib.hid hown0
          by_cases hvk : vc = k
          · subst hvk
            go_wp2_with (first
              | (at_builtin; refine wpList_append_own _ rfl (.tmp 50) (.tmp 56) 59 rfl w.heap.size 3 i0 (.int .i64 0) 1 8 Tryz.underlying59 hi hz0 hz1 hz2 rfl (by decide) (.slice (some ⟨w.heap.size, 0, none⟩) 0 0) 0 [] rfl hown0.out ⟨gl, 0, none⟩ vc vc (il (l.take vc)) rfl (by rw [il, List.length_map, hlk, Nat.mul_one]) hs1.out (il_one _) (by unfold maxLen; omega) (by omega) (by simp) ?_; intro v1 w1 o1 g1 _; obtain ⟨va1, VC1, rfl⟩ := own_slice o1; have b1 : Below w.heap.size w w1 := (ext_alloc w _).grown g1 (by simp) (fun k hk => (hown0.out.lt k hk).1); simp only [Nat.zero_add, List.nil_append] at o1; have hnew := Lib.hid (cell_new w1 t); have oA := Lib.hid (own_keep o1 (ext_alloc w1 (.cells #[.int .i64 t] 3))); replace o1 := Lib.hid o1; replace b1 := Lib.hid b1; clear g1)
              | (at_builtin; refine wpList_append_own _ rfl (.tmp 58) (.tmp 60) 59 rfl w.heap.size 3 i0 (.int .i64 0) 1 8 Tryz.underlying59 hi hz0 hz1 hz2 rfl (by decide) (.slice va1 vc VC1) vc (il (l.take vc)) rfl oA.out ⟨w1.heap.size, 0, none⟩ 1 1 [.int .i64 t] rfl rfl hnew.out (by intro u hu; simp at hu; subst hu; rfl) (by unfold maxLen; omega) (by omega) (by have := b1.out.size; simp; omega) ?_; intro v2 w2 o2 g2 _; obtain ⟨va2, VC2, rfl⟩ := own_slice o2; have b2 : Below w.heap.size w w2 := (b1.out.alloc b1.out.size _).grown g2 (by have := b1.out.size; simp; omega) (fun k hk => (oA.out.lt k hk).1); have c2 := (b2.cell (by simpa using hlt)).trans c0; have hs3 : Hid (∀ j u, (il (l.drop vc))[j]? = some u → w2.cell? ((⟨gl, 0, none⟩ : Addr).add j) = some u) := Lib.hid (by rw [List.drop_eq_nil_of_le (by omega)]; simp [il]); replace o2 := Lib.hid o2; replace b2 := Lib.hid b2; clear g2)
              | (at_builtin; refine wpList_append_own _ rfl (.tmp 62) (.tmp 68) 59 rfl w.heap.size 3 i0 (.int .i64 0) 1 8 Tryz.underlying59 hi hz0 hz1 hz2 rfl (by decide) (.slice va2 (vc + 1) VC2) (vc + 1) (il (l.take vc) ++ [.int .i64 t]) rfl o2.out ⟨gl, 0, none⟩ 0 _ [] rfl (by simp) (by simp) (by simp) (by unfold maxLen; omega) (by omega) (by have := b2.out.size; omega) ?_; intro v3 w3 o3 g3 _; obtain ⟨va3, VC3, rfl⟩ := own_slice o3; have b3 : Below w.heap.size w w3 := b2.out.grown g3 (by have := b2.out.size; omega) (fun k hk => (o2.out.lt k hk).1); have f3 := (H.out.keep b3).free 0; have c3 := (b3.cell (by simpa using hlt)).trans c0; replace o3 := Lib.hid o3; replace b3 := Lib.hid b3; clear g3))
            go_ret2
            have hd : l.drop vc = [] := List.drop_eq_nil_of_le (by omega)
            have o4 : w3.ownsRow 0 3 1 (.slice va3 (vc + 1) VC3) (l.take vc ++ t :: l.drop vc).length (il (l.take vc ++ t :: l.drop vc)) := by
              have e1 : (l.take vc ++ t :: l.drop vc).length = vc + 1 := by simp; omega
              have e2 : il (l.take vc ++ t :: l.drop vc) = il (l.take vc) ++ [.int .i64 t] ++ [] := by simp [il, hd]
              rw [e1, e2]
              exact own_base o3.out (Nat.zero_le _)
            obtain ⟨X, G⟩ := xstore H.out b3.out o4
            exact .inr (.inr ⟨ho.out, by omega, rfl, ⟨_, by rw [← hp.out]; exact X, fun k hk => (o3.out.lt k hk).1⟩, G⟩)
          · have hvk' : ¬ vc = k := hvk
            go_wp2_with (first
              | (at_builtin; refine wpList_append_own _ rfl (.tmp 50) (.tmp 56) 59 rfl w.heap.size 3 i0 (.int .i64 0) 1 8 Tryz.underlying59 hi hz0 hz1 hz2 rfl (by decide) (.slice (some ⟨w.heap.size, 0, none⟩) 0 0) 0 [] rfl hown0.out ⟨gl, 0, none⟩ k vc (il (l.take k)) rfl (by rw [il, List.length_map, hlk, Nat.mul_one]) hs1.out (il_one _) (by unfold maxLen; omega) (by omega) (by simp) ?_; intro v1 w1 o1 g1 _; obtain ⟨va1, vc1, rfl⟩ := own_slice o1; have b1 : Below w.heap.size w w1 := (ext_alloc w _).grown g1 (by simp) (fun k hk => (hown0.out.lt k hk).1); simp only [Nat.zero_add, List.nil_append] at o1; have hnew := Lib.hid (cell_new w1 t); have oA := Lib.hid (own_keep o1 (ext_alloc w1 (.cells #[.int .i64 t] 3))); replace o1 := Lib.hid o1; replace b1 := Lib.hid b1; clear g1)
              | (at_builtin; refine wpList_append_own _ rfl (.tmp 58) (.tmp 60) 59 rfl w.heap.size 3 i0 (.int .i64 0) 1 8 Tryz.underlying59 hi hz0 hz1 hz2 rfl (by decide) (.slice va1 k vc1) k (il (l.take k)) rfl oA.out ⟨w1.heap.size, 0, none⟩ 1 1 [.int .i64 t] rfl rfl hnew.out (by intro u hu; simp at hu; subst hu; rfl) (by unfold maxLen; omega) (by omega) (by have := b1.out.size; simp; omega) ?_; intro v2 w2 o2 g2 _; obtain ⟨va2, vc2, rfl⟩ := own_slice o2; have b2 : Below w.heap.size w w2 := (b1.out.alloc b1.out.size _).grown g2 (by have := b1.out.size; simp; omega) (fun k hk => (oA.out.lt k hk).1); have c2 := (b2.cell (by simpa using hlt)).trans c0; have hs3 := Lib.hid (src_at H.out.its b2 (l.drop k) k (fun j x hx => by rw [List.getElem?_drop] at hx; exact hx)); replace o2 := Lib.hid o2; replace b2 := Lib.hid b2; clear g2)
              | (at_builtin; refine wpList_append_own _ rfl (.tmp 62) (.tmp 68) 59 rfl w.heap.size 3 i0 (.int .i64 0) 1 8 Tryz.underlying59 hi hz0 hz1 hz2 rfl (by decide) (.slice va2 (k + 1) vc2) (k + 1) (il (l.take k) ++ [.int .i64 t]) rfl o2.out ⟨gl, k, none⟩ (l.length - k) _ (il (l.drop k)) rfl (by simp [il]) hs3.out (il_one _) (by unfold maxLen; omega) (by omega) (by have := b2.out.size; omega) ?_; intro v3 w3 o3 g3 _; obtain ⟨va3, vc3, rfl⟩ := own_slice o3; have b3 : Below w.heap.size w w3 := b2.out.grown g3 (by have := b2.out.size; omega) (fun k hk => (o2.out.lt k hk).1); have f3 := (H.out.keep b3).free 0; have c3 := (b3.cell (by simpa using hlt)).trans c0; replace o3 := Lib.hid o3; replace b3 := Lib.hid b3; clear g3))
            go_ret2
            have o4 : w3.ownsRow 0 3 1 (.slice va3 (k + 1 + (l.length - k)) vc3) (l.take k ++ t :: l.drop k).length (il (l.take k ++ t :: l.drop k)) := by
              have e1 : (l.take k ++ t :: l.drop k).length = k + 1 + (l.length - k) := by simp; omega
              have e2 : il (l.take k ++ t :: l.drop k) = il (l.take k) ++ [.int .i64 t] ++ il (l.drop k) := by simp [il]
              rw [e1, e2]
              exact own_base o3.out (Nat.zero_le _)
            obtain ⟨X, G⟩ := xstore H.out b3.out o4
            exact .inr (.inr ⟨ho.out, by omega, rfl, ⟨_, by rw [← hp.out]; exact X, fun k hk => (o3.out.lt k hk).1⟩, G⟩)
end Go.Proofs.YtceiipcdkonnlaaGreat.Inb

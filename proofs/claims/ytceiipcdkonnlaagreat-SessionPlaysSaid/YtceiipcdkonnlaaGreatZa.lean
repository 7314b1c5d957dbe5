/-
  LAYER 25: packets of two rows that hold the same.
-/
import Derived.Test.YtceiipcdkonnlaaGreatYg
import Derived.Test.YtceiipcdkonnlaaGreatNe
import Derived.Deep.MidRow
namespace Go.Proofs.YtceiipcdkonnlaaGreat.Ses
open Go.RowKit Que Hp Ids Fli
set_option linter.unusedSimpArgs false
set_option linter.unusedVariables false
/-- A packet of a message, or of a number. -/
structure Pk where
  k : Int
  i : Int
  d : Bool
  t : ByteArray
  x : ByteArray
  q : Int
  r : Bool
def pg (p : Pk) : List Value := [.int .i64 p.k, .int .i64 p.i, .bool p.d, .string p.t, .string p.x, .int .i64 p.q, .bool p.r, .int .i64 0, .bool false, .int .i64 0, .string { data := #[] }, .bool false, .string { data := #[] }, .string { data := #[] }, .int .i64 0, .bool false, .bool false, .string { data := #[] }, .bool false, .string { data := #[] }, .bool false, .int .i64 0, .slice none 0 0, .slice none 0 0]
theorem pg_len (p : Pk) : (pg p).length = 24 := rfl
def pgC (l : List Pk) : List Value := l.flatMap pg
theorem pgC_get : ∀ (l : List Pk) (i : Nat) (f : Pk), l[i]? = some f → ∀ j, j < 24 → (pgC l)[i * 24 + j]? = (pg f)[j]?
  | [], i, f, h, _, _ => by simp at h
  | g :: l, 0, f, h, j, hj => by
    simp only [List.getElem?_cons_zero, Option.some.injEq] at h
    subst h
    have e : pgC (g :: l) = pg g ++ pgC l := by simp [pgC]
    rw [e, Nat.zero_mul, Nat.zero_add, List.getElem?_append_left (by rw [pg_len]; exact hj)]
  | g :: l, i + 1, f, h, j, hj => by
    have e : pgC (g :: l) = pg g ++ pgC l := by simp [pgC]
    rw [e, List.getElem?_append_right (by rw [pg_len]; omega), pg_len]
    rw [show (i + 1) * 24 + j - 24 = i * 24 + j by omega]
    exact pgC_get l i f (by simpa using h) j hj
def pkOf (e : Se) : Pk := if e.s = 3 then ⟨6, e.i, false, ⟨#[]⟩, ⟨#[]⟩, 0, false⟩ else ⟨3, e.i, true, e.t, e.x, e.q, e.r⟩
def pfOf (e : Se) : Pk := ⟨3, e.i, false, e.t, e.x, e.q, e.r⟩
theorem pk_pg (e : Se) : pk e = pg (pkOf e) := by
  unfold pk pkOf
  split <;> rfl
theorem pkC_pg (l : List Se) : pkC l = pgC (l.map pkOf) := by
  unfold pkC pgC
  rw [List.flatMap_map]
  congr 1
  funext e
  exact pk_pg e
theorem pfC_pg (l : List Se) : pfC l = pgC (l.map pfOf) := by
  unfold pfC pgC
  rw [List.flatMap_map]
  rfl
theorem both_pg (a b : List Se) : pkC a ++ pfC b = pgC (a.map pkOf ++ b.map pfOf) := by
  rw [pkC_pg, pfC_pg]
  simp [pgC]
set_option maxHeartbeats 8000000 in
set_option maxRecDepth 100000 in
theorem same_pg (p : Pk) (w : World) : Calls Tryz.prog 43 #[.agg (pg p).toArray, .agg (pg p).toArray] w (Yes w) := by
  have hp : (pg p).toArray = #[.int .i64 p.k, .int .i64 p.i, .bool p.d, .string p.t, .string p.x, .int .i64 p.q, .bool p.r, .int .i64 0, .bool false, .int .i64 0, .string { data := #[] }, .bool false, .string { data := #[] }, .string { data := #[] }, .int .i64 0, .bool false, .bool false, .string { data := #[] }, .bool false, .string { data := #[] }, .bool false, .int .i64 0, .slice none 0 0, .slice none 0 0] := rfl
  rw [hp]
  have hb := Lib.hid (ext_two w (.cells #[.int .i64 p.k, .int .i64 p.i, .bool p.d, .string p.t, .string p.x, .int .i64 p.q, .bool p.r, .int .i64 0, .bool false, .int .i64 0, .string { data := #[] }, .bool false, .string { data := #[] }, .string { data := #[] }, .int .i64 0, .bool false, .bool false, .string { data := #[] }, .bool false, .string { data := #[] }, .bool false, .int .i64 0, .slice none 0 0, .slice none 0 0] 72) (.cells #[.int .i64 p.k, .int .i64 p.i, .bool p.d, .string p.t, .string p.x, .int .i64 p.q, .bool p.r, .int .i64 0, .bool false, .int .i64 0, .string { data := #[] }, .bool false, .string { data := #[] }, .string { data := #[] }, .int .i64 0, .bool false, .bool false, .string { data := #[] }, .bool false, .string { data := #[] }, .bool false, .int .i64 0, .slice none 0 0, .slice none 0 0] 72))
  have r0 := heap_alloc2_old w (.cells #[.int .i64 p.k, .int .i64 p.i, .bool p.d, .string p.t, .string p.x, .int .i64 p.q, .bool p.r, .int .i64 0, .bool false, .int .i64 0, .string { data := #[] }, .bool false, .string { data := #[] }, .string { data := #[] }, .int .i64 0, .bool false, .bool false, .string { data := #[] }, .bool false, .string { data := #[] }, .bool false, .int .i64 0, .slice none 0 0, .slice none 0 0] 72) (.cells #[.int .i64 p.k, .int .i64 p.i, .bool p.d, .string p.t, .string p.x, .int .i64 p.q, .bool p.r, .int .i64 0, .bool false, .int .i64 0, .string { data := #[] }, .bool false, .string { data := #[] }, .string { data := #[] }, .int .i64 0, .bool false, .bool false, .string { data := #[] }, .bool false, .string { data := #[] }, .bool false, .int .i64 0, .slice none 0 0, .slice none 0 0] 72)
  have r1 := heap_alloc2_new w (.cells #[.int .i64 p.k, .int .i64 p.i, .bool p.d, .string p.t, .string p.x, .int .i64 p.q, .bool p.r, .int .i64 0, .bool false, .int .i64 0, .string { data := #[] }, .bool false, .string { data := #[] }, .string { data := #[] }, .int .i64 0, .bool false, .bool false, .string { data := #[] }, .bool false, .string { data := #[] }, .bool false, .int .i64 0, .slice none 0 0, .slice none 0 0] 72) (.cells #[.int .i64 p.k, .int .i64 p.i, .bool p.d, .string p.t, .string p.x, .int .i64 p.q, .bool p.r, .int .i64 0, .bool false, .int .i64 0, .string { data := #[] }, .bool false, .string { data := #[] }, .string { data := #[] }, .int .i64 0, .bool false, .bool false, .string { data := #[] }, .bool false, .string { data := #[] }, .bool false, .int .i64 0, .slice none 0 0, .slice none 0 0] 72)
  have a22 := cell_of_row _ w.heap.size 22 _ 72 (0, 0) r0
  have a23 := cell_of_row _ w.heap.size 23 _ 72 (0, 0) r0
  have b22 := cell_of_row _ (w.heap.size + 1) 22 _ 72 (0, 0) r1
  have b23 := cell_of_row _ (w.heap.size + 1) 23 _ 72 (0, 0) r1
  simp only [List.getElem?_toArray, List.getElem?_cons_zero, List.getElem?_cons_succ] at a22 a23 b22 b23
  replace a22 := Lib.hid a22
  replace a23 := Lib.hid a23
  replace b22 := Lib.hid b22
  replace b23 := Lib.hid b23
  clear hp r0 r1
  go_enter Tryz.func43, Tryz.ntmps43
  go_wp2_with fail
  generalize (w.alloc (.cells #[.int .i64 p.k, .int .i64 p.i, .bool p.d, .string p.t, .string p.x, .int .i64 p.q, .bool p.r, .int .i64 0, .bool false, .int .i64 0, .string { data := #[] }, .bool false, .string { data := #[] }, .string { data := #[] }, .int .i64 0, .bool false, .bool false, .string { data := #[] }, .bool false, .string { data := #[] }, .bool false, .int .i64 0, .slice none 0 0, .slice none 0 0] 72)).alloc (.cells #[.int .i64 p.k, .int .i64 p.i, .bool p.d, .string p.t, .string p.x, .int .i64 p.q, .bool p.r, .int .i64 0, .bool false, .int .i64 0, .string { data := #[] }, .bool false, .string { data := #[] }, .string { data := #[] }, .int .i64 0, .bool false, .bool false, .string { data := #[] }, .bool false, .string { data := #[] }, .bool false, .int .i64 0, .slice none 0 0, .slice none 0 0] 72) = W at *
  have a22' := a22.out
  have a23' := a23.out
  have b22' := b22.out
  have b23' := b23.out
  go_loopw [5] (fun iv wr => iv = .int .i64 0 ∧ W = wr) (fun iv _ => 0)
  case atStart => exact ⟨rfl, rfl⟩
  case round =>
    obtain ⟨rfl, rfl⟩ := hrel
    go_wp2_with fail
    go_loopw [6] (fun iv wr => iv = .int .i64 0 ∧ W = wr) (fun iv _ => 0)
    case atStart => exact ⟨rfl, rfl⟩
    case round =>
      obtain ⟨rfl, rfl⟩ := hrel
      go_wp2_with fail
      go_ret
      exact ⟨rfl, hb.out⟩
theorem size72 : (Tryz.prog.info? 72).map (·.size) = some 24 := by kernel_rfl
set_option maxHeartbeats 8000000 in
set_option maxRecDepth 100000 in
theorem packets_any {w : World} {B1 B2 n : Nat} {v1 v2 : Value} (l : List Pk) (o1 : w.ownsRow B1 72 24 v1 n (pgC l)) (o2 : w.ownsRow B2 72 24 v2 n (pgC l)) (hn : l.length = n) (hl : n ≤ 1000) : Calls Tryz.prog 18 #[v1, v2] w (Yes w) := by
  obtain ⟨va1, vc1, rfl⟩ := own_slice o1
  obtain ⟨va2, vc2, rfl⟩ := own_slice o2
  have hl' : (n : Int) ≤ 1000 := by omega
  replace o1 := Lib.hid o1
  replace o2 := Lib.hid o2
  go_enter Tryz.func18, Tryz.ntmps18
  go_wp2_with fail
  go_loopw [5] (fun kv wr => ∃ k : Nat, kv = .int .i64 (k : Int) ∧ k ≤ n ∧ Below w.heap.size w wr) (fun kv _ => n - (intOf kv).toNat)
  case atStart => exact ⟨0, rfl, by omega, Below.refl _ _⟩
  case round =>
    obtain ⟨k, rfl, hk, hb9⟩ := hrel
    have HB9 := Lib.hid hb9
    by_cases hkl : k < n
    · have hkl' : (k : Int) < (n : Int) := by omega
      have hk0 : (0 : Int) ≤ (k : Int) := by omega
      obtain ⟨y, hy⟩ : ∃ y, l[k]? = some y := ⟨_, List.getElem?_eq_getElem (by omega)⟩
      obtain ⟨ga, cb, hva⟩ := own_slice' o1.out (by omega)
      obtain ⟨gx, cx, hvx⟩ := own_slice' o2.out (by omega)
      simp only [Value.slice.injEq] at hva hvx
      obtain ⟨rfl, -, rfl⟩ := hva
      obtain ⟨rfl, -, rfl⟩ := hvx
      have Gq := pgC_get l k y hy
      have hlen := pg_len y
      have SM := Lib.hid (same_pg y)
      have hi72 := Lib.hid (show (Tryz.prog.info? 72).map (·.size) = some (pg y).length by rw [hlen]; exact size72)
      generalize pg y = cs at *
      have KS : Hid (∀ W, Below wr.heap.size wr W → W.rangeAt ga (k * 24) cs ∧ W.rangeAt gx (k * 24) cs) := Lib.hid fun W hW => by
        have hW6 := HB9.out.trans (hW.mono HB9.out.size)
        refine ⟨fun j u hj => own_get (own_keep o1.out hW6) ?_, fun j u hj => own_get (own_keep o2.out hW6) ?_⟩
        all_goals
          rw [Gq j (by rw [← hlen]; exact (List.getElem?_eq_some_iff.1 hj).1), hj]
      clear hb9 Gq hy hlen
      go_wp2_with fail
      refine wp_region_held_drew (S := fun W => W.rangeAt ga (k * 24) cs ∧ W.rangeAt gx (k * 24) cs) (by kernel_rfl) (KS.out _ (ext_drew _)) (fun hHeld => ?_)
      refine wpAnyH_take (i := 0) (oi := _) (v := ?zv0) rfl (by kernel_rfl) (by kernel_rfl) (by kernel_rfl) (fun _ _ _ h => h) (Or.inl ⟨by rfl, ?zy0⟩) (by assumption) ?zr0
      case zy0 => (intro w hSw; go_simp <;> with_reducible rfl)
      try simp only [Act.put, List.setIfInBounds_toArray, List.set_cons_zero, List.set_cons_succ]
      refine wpAnyH_take (i := 1) (oi := _) (v := ?zv1) rfl (by kernel_rfl) (by kernel_rfl) (by kernel_rfl) (fun _ _ _ h => h) (Or.inl ⟨by rfl, ?zy1⟩) (by assumption) ?zr1
      case zy1 => (intro w hSw; go_simp <;> with_reducible rfl)
      try simp only [Act.put, List.setIfInBounds_toArray, List.set_cons_zero, List.set_cons_succ]
      refine wpAnyH_take (i := 2) (oi := _) (v := ?zv2) rfl (by kernel_rfl) (by kernel_rfl) (by kernel_rfl) (fun _ _ _ h => h) (Or.inl ⟨by rfl, ?zy2⟩) (by assumption) ?zr2
      case zy2 => (intro w hSw; go_simp <;> with_reducible rfl)
      try simp only [Act.put, List.setIfInBounds_toArray, List.set_cons_zero, List.set_cons_succ]
      refine wpAnyH_take (i := 3) (oi := _) (v := .agg cs.toArray) rfl (by kernel_rfl) (by kernel_rfl) (by kernel_rfl) (fun _ _ _ h => h) (yieldsIf_load_mid (by rfl) 72 _ rfl ga (k * 24) (by rfl) cs _ (fun w hSw => hSw.1) Tryz.underlying72 rfl hi72.out) (by assumption) ?zr3
      try simp only [Act.put, List.setIfInBounds_toArray, List.set_cons_zero, List.set_cons_succ]
      refine wpAnyH_take (i := 4) (oi := _) (v := ?zv4) rfl (by kernel_rfl) (by kernel_rfl) (by kernel_rfl) (fun _ _ _ h => h) (Or.inl ⟨by rfl, ?zy4⟩) (by assumption) ?zr4
      case zy4 => (intro w hSw; go_simp <;> with_reducible rfl)
      try simp only [Act.put, List.setIfInBounds_toArray, List.set_cons_zero, List.set_cons_succ]
      refine wpAnyH_take (i := 5) (oi := _) (v := ?zv5) rfl (by kernel_rfl) (by kernel_rfl) (by kernel_rfl) (fun _ _ _ h => h) (Or.inl ⟨by rfl, ?zy5⟩) (by assumption) ?zr5
      case zy5 => (intro w hSw; go_simp <;> with_reducible rfl)
      try simp only [Act.put, List.setIfInBounds_toArray, List.set_cons_zero, List.set_cons_succ]
      refine wpAnyH_take (i := 6) (oi := _) (v := ?zv6) rfl (by kernel_rfl) (by kernel_rfl) (by kernel_rfl) (fun _ _ _ h => h) (Or.inl ⟨by rfl, ?zy6⟩) (by assumption) ?zr6
      case zy6 => (intro w hSw; go_simp <;> with_reducible rfl)
      try simp only [Act.put, List.setIfInBounds_toArray, List.set_cons_zero, List.set_cons_succ]
      refine wpAnyH_take (i := 7) (oi := _) (v := .agg cs.toArray) rfl (by kernel_rfl) (by kernel_rfl) (by kernel_rfl) (fun _ _ _ h => h) (yieldsIf_load_mid (by rfl) 72 _ rfl gx (k * 24) (by rfl) cs _ (fun w hSw => hSw.2) Tryz.underlying72 rfl hi72.out) (by assumption) ?zr7
      try simp only [Act.put, List.setIfInBounds_toArray, List.set_cons_zero, List.set_cons_succ]
      refine wpAnyH_ready (rs := [8]) (by kernel_rfl) (by simp) ?_
      refine AllReadyH.cons (o := _) rfl (fun K hK => ?_) AllReadyH.nil
      go_simp
      refine (SM.out _).mono ?_
      rintro e w7 ⟨rfl, b7⟩
      go_wp2_with fail
      refine hK.out _ _ (KS.out _ (ext_trans (ext_drew _) b7)) (fun hHeld2 => ?_)
      have HB7 := Lib.hid (ext_trans (ext_drew _) b7)
      clear hK K b7
      try simp only [Act.put, List.setIfInBounds_toArray, List.set_cons_zero, List.set_cons_succ]
      refine wpAnyH_take (i := 9) (oi := _) (v := ?zv9) rfl (by kernel_rfl) (by kernel_rfl) (by kernel_rfl) (fun _ _ _ h => h) (Or.inl ⟨by rfl, ?zy9⟩) (by assumption) ?zr9
      case zy9 => (intro w hSw; go_simp <;> with_reducible rfl)
      try simp only [Act.put, List.setIfInBounds_toArray, List.set_cons_zero, List.set_cons_succ]
      refine wpAnyH_done (by kernel_rfl) ?_ _
      clear hHeld hHeld2
      go_wp2_with fail
      go_roundw
      case rel => exact ⟨k + 1, by simp, by omega, HB9.out.trans (HB7.out.mono HB9.out.size)⟩
      case measure => simp [intOf]; omega
    · obtain rfl : k = n := by omega
      go_wp2_with fail
      go_ret
      exact ⟨rfl, hb9⟩
end Go.Proofs.YtceiipcdkonnlaaGreat.Ses

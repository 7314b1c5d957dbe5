/-
  LAYER 24: contracts of Come, Done, Len, Clear.
-/
import Derived.Test.YtceiipcdkonnlaaGreatJb
import Derived.Laws.CopyOwn
namespace Go.Proofs.YtceiipcdkonnlaaGreat.Inb
set_option linter.unusedSimpArgs false
set_option linter.unusedVariables false
open Go.RowKit
theorem set_grown {w : World} {g j : Nat} (u : Value) : w.grownBy (w.setCell ⟨g, j, none⟩ u) (some g) :=
  ⟨rfl, rfl, rfl, by simp [World.setCell], fun k _ hk => Below.heap_setCell _ _ _ k (fun e => hk (by rw [e]))⟩

theorem wpList_copy_splice_g {P : Program} {w : World} {ops : Array Oper} {rest : List Oper} {o : Oper} {a : Act} {Q : Exit → Act → World → Prop} (hgd : o.guard = none) (d s : Operand) (dT sT : TypeId)
    (ho : o.op = .call { callee := .builtin .copy, args := #[d, s], argTypes := #[dT, sT] }) (elem : TypeId) (hu : P.underlying dT = some (.slice elem)) (hsz : (P.info? elem).map (·.size) = some 1)
    (dp sp : Option Addr) (dLen dCap sLen sCap : Nat) (hd : a.eval d = .slice dp dLen dCap) (hs : a.eval s = .slice sp sLen sCap)
    (g off : Nat) (cur : List Value) (t : TypeId) (hg : w.heap[g]? = some (.cells cur.toArray t (0, 0))) (cs : List Value) (hn : cs.length = Nat.min sLen dLen)
    (hpos : 0 < cs.length → dp = some ⟨g, off, none⟩ ∧ ∃ ad, sp = some ad ∧ ∀ j v, cs[j]? = some v → w.cell? (ad.add j) = some v)
    (hfit : off + cs.length ≤ cur.length) (h1 : ∀ v ∈ cs, v.oneCell' = true) (w0 : World) (hb : w0.grownBy w (some g))
    (h : ∀ w', Hid (w'.heap[g]? = some (.cells (splice cur off cs).toArray t (0, 0))) → w0.grownBy w' (some g) → wpList P ops Q rest (a.put o.dst (goInt cs.length)) w') :
    wpList P ops Q (o :: rest) a w := by
  by_cases h0 : cs.length = 0
  · obtain rfl : cs = [] := List.eq_nil_of_length_eq_zero h0
    refine wpList_copy_nothing hgd d s dT sT ho elem hu hsz dp sp dLen dCap sLen sCap hd hs (by simpa using hn.symm) ?_
    exact h w (show _ = _ by simpa [splice] using hg) hb
  · obtain ⟨rfl, ad, rfl, hsrc⟩ := hpos (by omega)
    refine wpList_copy_own hgd d s dT sT ho elem hu hsz g off dLen dCap ad sLen sCap hd hs cur.toArray t hg cs hn hsrc (by simpa using hfit) h1 ?_
    exact h _ (show _ = _ by simpa [splice] using setRow_heap w g _ _ t _ hg) (grown_trans hb ⟨rfl, rfl, rfl, by simp [World.setRow], fun k _ hk => setRow_other w g k _ (fun e => hk (by rw [e]))⟩)

theorem find_call (g n : Nat) (xs : List Int) (t : Int) (w : World) (h : Box w g xs n) (hs : Sorted (xs.take n)) :
    Calls Tryz.prog 76 #[.pointer (some ⟨g, 0, none⟩), .int .i64 t] w fun e w' => ∃ k, e = .returned (.tuple #[.int .i64 (posOf t (xs.take n)), .bool (foundIn t (xs.take n))]) ∧ w.drewN k = w' :=
  (find_is g n xs t w h hs).mono fun _ _ ⟨he, k, hk⟩ => ⟨k, he, hk.symm⟩
theorem Box.drewN {w : World} {g : Nat} {xs : List Int} {n : Nat} (h : Box w g xs n) (k : Nat) : Box (w.drewN k) g xs n := ⟨h.row, h.len, h.le⟩

set_option maxRecDepth 100000 in
theorem come_there (g n : Nat) (xs : List Int) (t : Int) (w : World) (h : Box w g xs n) (hs : Sorted (xs.take n)) (h0 : 1 ≤ t) (h1 : t ≤ 65535) (hf : foundIn t (xs.take n) = true) :
    Calls Tryz.prog 53 #[.pointer (some ⟨g, 0, none⟩), .int .i64 t] w fun e w' => ∃ k, e = .returned (.tuple #[.bool false, .int .i64 0]) ∧ w.drewN k = w' := by
  have c0 := h.made
  have FC := Lib.hid (find_call g n xs t w h hs)
  have HF := Lib.hid hf
  clear h hs hf
  go_enter Tryz.func53, Tryz.ntmps53
  go_wp2_with (first | (go_at_call 76; refine FC.out.mono ?_; rintro e w' ⟨k, rfl, rfl⟩; rw [HF.out]) | go_in)
  go_ret2
  exact ⟨_, rfl, rfl⟩
set_option maxRecDepth 100000 in
theorem come_full (g : Nat) (xs : List Int) (t : Int) (w : World) (h : Box w g xs 16) (hs : Sorted (xs.take 16)) (h0 : 1 ≤ t) (h1 : t ≤ 65535) (hf : foundIn t (xs.take 16) = false) :
    Calls Tryz.prog 53 #[.pointer (some ⟨g, 0, none⟩), .int .i64 t] w fun e w' => ∃ k, e = .returned (.tuple #[.bool false, .int .i64 6]) ∧ w.drewN k = w' := by
  have c0 := h.made
  have c1 := h.count
  have FC := Lib.hid (find_call g 16 xs t w h hs)
  have HF := Lib.hid hf
  clear h hs hf
  go_enter Tryz.func53, Tryz.ntmps53
  go_wp2_with (first | (go_at_call 76; refine FC.out.mono ?_; rintro e w' ⟨k, rfl, rfl⟩; rw [HF.out]) | go_in)
  go_ret2
  exact ⟨_, rfl, rfl⟩
theorem parts (xs : List Int) (n p : Nat) (h : xs.length = 16) (hp : p ≤ n) (hn : n < 16) :
    ∃ A M R r, xs = A ++ (M ++ r :: R) ∧ A.length = p ∧ M.length = n - p ∧ R.length = 15 - n := by
  refine ⟨xs.take p, (xs.drop p).take (n - p), xs.drop (n + 1), xs[n], ?_, by rw [List.length_take]; omega, by rw [List.length_take, List.length_drop]; omega, by rw [List.length_drop]; omega⟩
  have e : xs.drop p = (xs.drop p).take (n - p) ++ (xs.drop p).drop (n - p) := (List.take_append_drop _ _).symm
  have e2 : (xs.drop p).drop (n - p) = xs[n] :: xs.drop (n + 1) := by
    rw [List.drop_drop, show p + (n - p) = n from by omega, List.drop_eq_getElem_cons (by omega)]
  rw [e2] at e
  rw [← e, List.take_append_drop]
/-- The row as the copy leaves it. -/
theorem row_shift (A M R : List Int) (r : Int) (n p : Nat) (c : Value) (hA : A.length = p) (hM : M.length = n - p) (hp : p ≤ n) :
    ∃ y, splice (.bool true :: c :: (A ++ (M ++ r :: R)).map (Value.int .i64)) (2 + (p + 1)) (M.map (Value.int .i64)) = .bool true :: c :: (A ++ y :: (M ++ R)).map (Value.int .i64) := by
  subst hA
  have e : 2 + (A.length + 1) = (A.length + 1) + 1 + 1 := by omega
  cases M with
  | nil => exact ⟨r, by simp [splice, e]⟩
  | cons m M =>
    refine ⟨m, ?_⟩
    unfold splice
    rw [e, List.length_map, show A.length + 1 + 1 + 1 + (m :: M).length = (A.length + (m :: (M ++ [r])).length) + 1 + 1 from by simp; omega]
    simp only [List.take_succ_cons, List.drop_succ_cons, ← List.map_take, ← List.map_drop]
    rw [show A ++ (m :: M ++ r :: R) = A ++ ((m :: (M ++ [r])) ++ R) from by simp, List.take_append, List.drop_append]
    simp [List.take_append]
    rw [List.take_of_length_le (by simp), List.drop_of_length_le (by rw [List.length_map]; omega)]
    rfl

set_option maxRecDepth 100000 in
theorem come_new (g n : Nat) (xs : List Int) (t : Int) (w : World) (h : Box w g xs n) (hs : Sorted (xs.take n)) (hn : n < 16) (h0 : 1 ≤ t) (h1 : t ≤ 65535) (hf : foundIn t (xs.take n) = false) :
    Calls Tryz.prog 53 #[.pointer (some ⟨g, 0, none⟩), .int .i64 t] w fun e w' => e = .returned (.tuple #[.bool true, .int .i64 0]) ∧
      ∃ A M R : List Int, xs.take n = A ++ M ∧ A.length = posOf t (xs.take n) ∧ Box w' g (A ++ t :: (M ++ R)) (n + 1) ∧ w.grownBy w' (some g) := by
  have c0 := h.made
  have c1 := h.count
  have FC := Lib.hid (find_call g n xs t w h hs)
  have HF := Lib.hid hf
  have hp : posOf t (xs.take n) ≤ n := by have := (pos_of t _ hs).le; simp at this; omega
  obtain ⟨p, hpd⟩ : ∃ p, p = posOf t (xs.take n) := ⟨_, rfl⟩
  rw [← hpd] at hp ⊢
  obtain ⟨A, M, R, r, hx, hA, hM, hR⟩ := parts xs n p h.len hp hn
  have htk : xs.take n = A ++ M := by rw [hx, ← List.append_assoc, List.take_append_of_le_length (by simp; omega), List.take_of_length_le (by simp; omega)]
  have HPD := Lib.hid hpd
  have HX := Lib.hid hx
  have HA := Lib.hid hA
  have HM := Lib.hid hM
  have HTK := Lib.hid htk
  have HB := Lib.hid h
  have al := alen97
  have hn' : (n : Int) ≤ 16 := by omega
  have hn'' : ((n : Int) == 16) = false := by rw [beq_eq_false_iff_ne]; omega
  clear h hs hf hpd hx hA hM htk hR
  go_enter Tryz.func53, Tryz.ntmps53
  go_wp2_with (first | (go_at_call 76; refine FC.out.mono ?_; rintro e w' ⟨k, rfl, rfl⟩; rw [HF.out, ← HPD.out]) | go_in)
  obtain ⟨W, hW⟩ : ∃ W, W = w.drewN k := ⟨_, rfl⟩
  have HBW : Hid (Box W g xs n) := by rw [hW]; exact HB.out.drewN k
  have HWB : Hid (w.grownBy W.drew (some g)) := by rw [hW]; exact ⟨rfl, rfl, rfl, Nat.le_refl _, fun _ _ _ => rfl⟩
  rw [← hW]
  clear hW HB FC c0 c1
  have c1W : W.cell? ⟨g, 1, none⟩ = some (.int .i64 n) := HBW.out.count
  have k1 : IntKind.i64.wrap ((p : Int) + 1) = (p : Int) + 1 := IntWalk.i64_in _ (by omega)
  have k2 : (0 : Int) ≤ (p : Int) + 1 := by omega
  have k4 : (p : Int) + 1 ≤ 16 := by omega
  have k5 : (p : Int) ≤ (n : Int) := by omega
  have k6 : ¬ 16 = p := by omega
  have k3 : ((p : Int) + 1).toNat = p + 1 := by omega
  have hrow : W.drew.heap[g]? = some (.cells (.bool true :: .int .i64 n :: (A ++ (M ++ r :: R)).map (Value.int .i64)).toArray 102 (0, 0)) := by rw [← HX.out]; exact HBW.out.row
  have hcsl : (M.map (Value.int .i64)).length = n - p := by rw [List.length_map]; exact HM.out
  have hsrc : ∀ j v, (M.map (Value.int .i64))[j]? = some v → W.drew.cell? ((⟨g, 2 + p, none⟩ : Addr).add j) = some v := by
    intro j v hj
    have hjl : j < n - p := by rw [← hcsl]; exact (List.getElem?_eq_some_iff.1 hj).1
    have hadd : (⟨g, 2 + p, none⟩ : Addr).add j = ⟨g, 2 + p + j, none⟩ := by unfold Addr.add; split <;> simp_all
    rw [hadd, cell_of_row _ g _ _ 102 (0, 0) hrow, show 2 + p + j = (A.length + j) + 1 + 1 from by rw [HA.out]; omega]
    simp only [List.getElem?_toArray, List.getElem?_cons_succ, List.map_append]
    rw [List.getElem?_append_right (by simp), List.length_map, Nat.add_sub_cancel_left, List.getElem?_append_left (by omega)]
    exact hj
  have HROW := Lib.hid hrow
  have HSRC := Lib.hid hsrc
  have HCSL := Lib.hid hcsl
  clear hrow hsrc hcsl
  obtain ⟨y, hy⟩ := row_shift A M R r n p (.int .i64 n) HA.out HM.out hp
  have HY := Lib.hid hy
  clear hy
  have hfinal : ∀ w', Hid (w'.heap[g]? = some (.cells (splice (.bool true :: .int .i64 n :: (A ++ (M ++ r :: R)).map (Value.int .i64)) (2 + (p + 1)) (M.map (Value.int .i64))).toArray 102 (0, 0))) → Box w' g (A ++ y :: (M ++ R)) n := by
    intro w' hw
    refine ⟨by rw [← HY.out]; exact hw.out, ?_, by omega⟩
    have := HBW.out.len
    rw [HX.out] at this
    simp at this ⊢
    omega
  have HFIN := Lib.hid hfinal
  clear hfinal
  by_cases hlast : p = 15
  · subst hlast
    obtain rfl : n = 15 := by omega
    have hM0 : M = [] := List.eq_nil_of_length_eq_zero (by have := HM.out; omega)
    subst hM0
    have hw0 : W.drew.heap[g]? = W.heap[g]? := rfl
    have hbox : Box W.drew g (A ++ ([] ++ r :: R)) 15 := by rw [← HX.out]; exact ⟨HBW.out.row, HBW.out.len, HBW.out.le⟩
    have HBX := Lib.hid hbox
    clear hbox hw0 k1 k2 k3 k4 k5 k6
    have k8 : IntKind.i64.wrap 16 = 16 := by decide
    go_still_tail 15, (by kernel_rfl)
    refine wpList_copy_nothing rfl (.tmp 33) (.tmp 42) 59 59 rfl 3 Tryz.underlying59 (by kernel_rfl) _ _ _ _ _ _ rfl rfl ?hn ?_
    case hn => rfl
    clear k8 c1W
    have d1 : W.cell? ⟨g, 1, none⟩ = some (.int .i64 15) := HBX.out.count
    have d2 : W.cell? ⟨g, 17, none⟩ = some (.int .i64 ((A ++ ([] ++ r :: R)).getD 15 0)) := HBX.out.cell 15 (by omega)
    have f1 : W.frozen? ⟨g, 1, none⟩ = false := HBX.out.free 1
    have f2 : W.frozen? ⟨g, 17, none⟩ = false := HBX.out.free 17
    go_wp2
    go_ret2
    have hst := (HBX.out.set 15 t).recount (15 + 1) (by omega)
    have es : (A ++ ([] ++ r :: R)).set 15 t = A ++ t :: ([] ++ R) := by rw [← HA.out]; simp
    rw [es] at hst
    exact ⟨rfl, A, [], R, HTK.out, HA.out, ⟨hst.row, hst.len, hst.le⟩, grown_trans (grown_trans HWB.out (set_grown _)) (set_grown _)⟩
  · have k7 : ¬ 16 = p + 1 := by omega
    go_still_tail 15, (by kernel_rfl)
    refine wpList_copy_splice_g rfl (.tmp 33) (.tmp 42) 59 59 rfl 3 Tryz.underlying59 (by kernel_rfl) _ _ _ _ _ _ rfl rfl g (2 + (p + 1)) _ 102 HROW.out (M.map (Value.int .i64)) ?_ ?_ ?_ ?_ w HWB.out ?_
    · rw [HCSL.out]; exact (Nat.min_eq_left (by omega)).symm
    · intro _
      exact ⟨rfl, _, rfl, HSRC.out⟩
    · have e1 := HA.out
      have e2 := HM.out
      simp
      omega
    · intro u hu
      simp only [List.mem_map] at hu
      obtain ⟨x, _, rfl⟩ := hu
      rfl
    · intro w' hw hb
      have hbox := HFIN.out w' hw
      clear k1 k2 k3 k4 k5 k6 k7 c1W
      have HBX := Lib.hid hbox
      have d1 := hbox.count
      have d2 := hbox.cell p (by omega)
      have f1 := hbox.free 1
      have f2 := hbox.free (2 + p)
      clear hbox
      go_wp2
      go_ret2
      have hst := (HBX.out.set p t).recount (n + 1) (by omega)
      have es : (A ++ y :: (M ++ R)).set p t = A ++ t :: (M ++ R) := by rw [← HA.out]; simp
      rw [es] at hst
      exact ⟨rfl, A, M, R, HTK.out, HA.out, by simpa using hst, grown_trans (grown_trans hb (set_grown _)) (set_grown _)⟩
end Go.Proofs.YtceiipcdkonnlaaGreat.Inb

/-
  LAYER 24: contracts of Done, Len, Clear; what rises goes on rising.
-/
namespace Go.Proofs.YtceiipcdkonnlaaGreat.Inb
set_option linter.unusedSimpArgs false
set_option linter.unusedVariables false
open Go.RowKit

theorem foundIn_iff {t : Int} {l : List Int} (hs : Sorted l) : foundIn t l = true ↔ t ∈ l := by
  unfold foundIn
  rw [decide_eq_true_iff]
  constructor
  · rintro ⟨h1, h2⟩
    rw [← h2, List.getD_eq_getElem?_getD, List.getElem?_eq_getElem h1]
    exact List.getElem_mem _
  · intro hm
    obtain ⟨i, hi, he⟩ := List.getElem_of_mem hm
    have hp := pos_of t l hs
    have hg : l.getD i 0 = t := by rw [List.getD_eq_getElem?_getD, List.getElem?_eq_getElem hi]; exact he
    have : posOf t l = i := by
      rcases Nat.lt_trichotomy (posOf t l) i with h | h | h
      · have h1 := hp.high (posOf t l) (Nat.le_refl _) (by omega)
        have h2 := hs (posOf t l) i h hi
        omega
      · exact h
      · have := hp.low i h
        omega
    rw [this]
    exact ⟨hi, hg⟩
theorem getD_append_left (A M : List Int) (k : Nat) (h : k < A.length) : (A ++ M).getD k 0 = A.getD k 0 := by
  simp [List.getD, List.getElem?_append_left h]
theorem getD_append_right (A M : List Int) (k : Nat) (h : A.length ≤ k) : (A ++ M).getD k 0 = M.getD (k - A.length) 0 := by
  simp [List.getD, List.getElem?_append_right h]
theorem sorted_in {A M : List Int} {t : Int} (hs : Sorted (A ++ M)) (hp : Pos (A ++ M) t A.length) (hn : t ∉ A ++ M) : Sorted (A ++ t :: M) := by
  have lowA : ∀ k, k < A.length → A.getD k 0 < t := fun k hk => by have := hp.low k hk; rwa [getD_append_left A M k hk] at this
  have highM : ∀ k, k < M.length → t < M.getD k 0 := fun k hk => by
    have h1 := hp.high (A.length + k) (by omega) (by simp; omega)
    rw [getD_append_right A M _ (by omega), Nat.add_sub_cancel_left] at h1
    have hne : t ≠ M.getD k 0 := fun e => hn (by
      rw [e, List.getD_eq_getElem?_getD, List.getElem?_eq_getElem hk]
      exact List.mem_append_right _ (List.getElem_mem _))
    omega
  intro i j hij hj
  by_cases h1 : j < A.length
  · rw [getD_append_left A _ i (by omega), getD_append_left A _ j h1]
    have := hs i j hij (by simp; omega)
    rwa [getD_append_left A _ i (by omega), getD_append_left A _ j h1] at this
  · rw [getD_append_right A _ j (by omega)]
    by_cases h2 : i < A.length
    · rw [getD_append_left A _ i h2]
      by_cases h3 : j = A.length
      · subst h3; simpa using lowA i h2
      · rw [show j - A.length = (j - A.length - 1) + 1 from by omega, List.getD_cons_succ]
        have := hs i (j - 1) (by omega) (by simp at hj ⊢; omega)
        rw [getD_append_left A _ i h2, getD_append_right A _ (j - 1) (by omega), show j - 1 - A.length = j - A.length - 1 from by omega] at this
        exact this
    · rw [getD_append_right A _ i (by omega)]
      have hj' : j - A.length - 1 < M.length := by simp at hj; omega
      rw [show j - A.length = (j - A.length - 1) + 1 from by omega, List.getD_cons_succ]
      by_cases h3 : i = A.length
      · subst h3
        rw [Nat.sub_self, List.getD_cons_zero]
        exact highM _ hj'
      · rw [show i - A.length = (i - A.length - 1) + 1 from by omega, List.getD_cons_succ]
        have := hs (i - 1) (j - 1) (by omega) (by simp; omega)
        rw [getD_append_right A _ (i - 1) (by omega), getD_append_right A _ (j - 1) (by omega), show i - 1 - A.length = i - A.length - 1 from by omega, show j - 1 - A.length = j - A.length - 1 from by omega] at this
        exact this
theorem sorted_out {A M : List Int} {t : Int} (hs : Sorted (A ++ t :: M)) : Sorted (A ++ M) := by
  intro i j hij hj
  have hj2 : j < A.length + M.length := by simpa using hj
  by_cases h1 : j < A.length
  · rw [getD_append_left A _ i (by omega), getD_append_left A _ j h1]
    have := hs i j hij (by simp; omega)
    rwa [getD_append_left A _ i (by omega), getD_append_left A _ j h1] at this
  · rw [getD_append_right A _ j (by omega)]
    by_cases h2 : i < A.length
    · rw [getD_append_left A _ i h2]
      have := hs i (j + 1) (by omega) (by simp; omega)
      rw [getD_append_left A _ i h2, getD_append_right A _ (j + 1) (by omega), show j + 1 - A.length = (j - A.length) + 1 from by omega, List.getD_cons_succ] at this
      exact this
    · rw [getD_append_right A _ i (by omega)]
      have := hs (i + 1) (j + 1) (by omega) (by simp; omega)
      rw [getD_append_right A _ (i + 1) (by omega), getD_append_right A _ (j + 1) (by omega), show i + 1 - A.length = (i - A.length) + 1 from by omega, show j + 1 - A.length = (j - A.length) + 1 from by omega, List.getD_cons_succ, List.getD_cons_succ] at this
      exact this

theorem len_any (g n : Nat) (xs : List Int) (w : World) (h : Box w g xs n) :
    Calls Tryz.prog 113 #[.pointer (some ⟨g, 0, none⟩)] w fun e w' => e = .returned (.int .i64 n) ∧ w = w' := by
  have c0 := h.made
  have c1 := h.count
  clear h
  go_enter Tryz.func113, Tryz.ntmps113
  go_wp2
  go_ret
  exact ⟨rfl, rfl⟩
theorem new24_any (w : World) : Calls Tryz.prog 12 #[] w fun e w' => e = .returned (.pointer (some ⟨w.heap.size, 0, none⟩)) ∧ Box w' w.heap.size (List.replicate 16 0) 0 ∧ Below w.heap.size w w' := by
  go_enter Tryz.func12, Tryz.ntmps12
  go_wp2
  go_ret
  refine ⟨rfl, ⟨?_, by simp, by omega⟩, ext_alloc _ _⟩
  rw [heap_alloc_new]
  rfl
theorem done_no (g n : Nat) (xs : List Int) (t : Int) (w : World) (h : Box w g xs n) (hs : Sorted (xs.take n)) (hf : foundIn t (xs.take n) = false) :
    Calls Tryz.prog 54 #[.pointer (some ⟨g, 0, none⟩), .int .i64 t] w fun e w' => ∃ k, e = .returned (.bool false) ∧ w.drewN k = w' := by
  have c0 := h.made
  have FC := Lib.hid (find_call g n xs t w h hs)
  have HF := Lib.hid hf
  clear h hs hf
  go_enter Tryz.func54, Tryz.ntmps54
  go_wp2_with (first | (go_at_call 76; refine FC.out.mono ?_; rintro e w' ⟨k, rfl, rfl⟩; rw [HF.out]) | go_in)
  go_ret
  exact ⟨_, rfl, rfl⟩
theorem row_back (A M R : List Int) (t : Int) (c : Value) : ∃ z, splice (.bool true :: c :: (A ++ t :: (M ++ R)).map (Value.int .i64)) (2 + A.length) (M.map (Value.int .i64)) = .bool true :: c :: (A ++ (M ++ z :: R)).map (Value.int .i64) := by
  have e : 2 + A.length = A.length + 1 + 1 := by omega
  obtain ⟨m, z, hm⟩ : ∃ m z, t :: M = m ++ [z] := by
    rcases List.eq_nil_or_concat (t :: M) with h | ⟨m, z, h⟩
    · cases h
    · exact ⟨m, z, by rw [h, List.concat_eq_append]⟩
  have hml : m.length = M.length := by have := congrArg List.length hm; simp at this; omega
  refine ⟨z, ?_⟩
  unfold splice
  rw [e, List.length_map, show A.length + 1 + 1 + M.length = (A.length + m.length) + 1 + 1 from by omega]
  simp only [List.take_succ_cons, List.drop_succ_cons, ← List.map_take, ← List.map_drop]
  rw [show A ++ t :: (M ++ R) = A ++ m ++ (z :: R) from by rw [← List.cons_append, hm]; simp, List.drop_append_of_le_length (by simp), List.take_append_of_le_length (by simp)]
  simp
theorem parts_out (xs : List Int) (n : Nat) (t : Int) (h : xs.length = 16) (hn : n ≤ 16) (hs : Sorted (xs.take n)) (hf : foundIn t (xs.take n) = true) :
    ∃ A M R, xs = A ++ t :: (M ++ R) ∧ xs.take n = A ++ t :: M ∧ A.length = posOf t (xs.take n) ∧ M.length + A.length + 1 = n ∧ R.length = 16 - n := by
  unfold foundIn at hf
  rw [decide_eq_true_iff] at hf
  obtain ⟨h1, h2⟩ := hf
  obtain ⟨p, hp⟩ : ∃ p, p = posOf t (xs.take n) := ⟨_, rfl⟩
  rw [← hp] at h1 h2 ⊢
  have hl : (xs.take n).length = n := by rw [List.length_take]; omega
  have e : xs.take n = (xs.take n).take p ++ t :: (xs.take n).drop (p + 1) := by
    conv => lhs; rw [← List.take_append_drop p (xs.take n), List.drop_eq_getElem_cons h1]
    rw [List.getD_eq_getElem?_getD, List.getElem?_eq_getElem h1] at h2
    simp only [Option.getD_some] at h2
    rw [h2]
  refine ⟨(xs.take n).take p, (xs.take n).drop (p + 1), xs.drop n, ?_, e, by rw [List.length_take]; omega, by rw [List.length_take, List.length_drop]; omega, by rw [List.length_drop]; omega⟩
  conv => lhs; rw [← List.take_append_drop n xs, e]
  simp

set_option maxRecDepth 100000 in
theorem done_yes (g n : Nat) (xs : List Int) (t : Int) (w : World) (h : Box w g xs n) (hs : Sorted (xs.take n)) (hf : foundIn t (xs.take n) = true) :
    Calls Tryz.prog 54 #[.pointer (some ⟨g, 0, none⟩), .int .i64 t] w fun e w' => e = .returned (.bool true) ∧
      ∃ (A M R : List Int) (z : Int), xs.take n = A ++ t :: M ∧ Box w' g (A ++ (M ++ z :: R)) (n - 1) ∧ w.grownBy w' (some g) := by
  have c0 := h.made
  have c1 := h.count
  have FC := Lib.hid (find_call g n xs t w h hs)
  have HF := Lib.hid hf
  have hn := h.le
  obtain ⟨A, M, R, hx, htk, hA, hM, hR⟩ := parts_out xs n t h.len hn hs hf
  obtain ⟨p, hpd⟩ : ∃ p, p = posOf t (xs.take n) := ⟨_, rfl⟩
  rw [← hpd] at hA
  have hp : p < n := by omega
  have HPD := Lib.hid hpd
  have HX := Lib.hid hx
  have HA := Lib.hid hA
  have HM := Lib.hid hM
  have HTK := Lib.hid htk
  have HB := Lib.hid h
  have al := alen97
  have hn' : (n : Int) ≤ 16 := by omega
  clear h hs hf hpd hx hA hM htk hR
  go_enter Tryz.func54, Tryz.ntmps54
  go_wp2_with (first | (go_at_call 76; refine FC.out.mono ?_; rintro e w' ⟨k, rfl, rfl⟩; rw [HF.out, ← HPD.out]) | go_in)
  obtain ⟨W, hW⟩ : ∃ W, W = w.drewN k := ⟨_, rfl⟩
  have HBW : Hid (Box W g xs n) := by rw [hW]; exact HB.out.drewN k
  have HWB : Hid (w.grownBy W.drew (some g)) := by rw [hW]; exact ⟨rfl, rfl, rfl, Nat.le_refl _, fun _ _ _ => rfl⟩
  rw [← hW]
  clear hW HB FC c0 c1
  have c1W : W.cell? ⟨g, 1, none⟩ = some (.int .i64 n) := HBW.out.count
  have k1 : IntKind.i64.wrap ((p : Int) + 1) = (p : Int) + 1 := IntWalk.i64_in _ (by omega)
  have k2 : (0 : Int) ≤ (p : Int) + 1 := by omega
  have k4 : (p : Int) ≤ 16 := by omega
  have k5 : (p : Int) + 1 ≤ (n : Int) := by omega
  have k6 : ¬ 16 = p := by omega
  have k3 : ((p : Int) + 1).toNat = p + 1 := by omega
  have hrow : W.drew.heap[g]? = some (.cells (.bool true :: .int .i64 n :: (A ++ t :: (M ++ R)).map (Value.int .i64)).toArray 102 (0, 0)) := by rw [← HX.out]; exact HBW.out.row
  have hcsl : (M.map (Value.int .i64)).length = n - (p + 1) := by rw [List.length_map]; have := HM.out; have := HA.out; omega
  have hsrc : ∀ j v, (M.map (Value.int .i64))[j]? = some v → W.drew.cell? ((⟨g, 2 + (p + 1), none⟩ : Addr).add j) = some v := by
    intro j v hj
    have hjl : j < n - (p + 1) := by rw [← hcsl]; exact (List.getElem?_eq_some_iff.1 hj).1
    have hadd : (⟨g, 2 + (p + 1), none⟩ : Addr).add j = ⟨g, 2 + (p + 1) + j, none⟩ := by unfold Addr.add; split <;> simp_all
    rw [hadd, cell_of_row _ g _ _ 102 (0, 0) hrow, show 2 + (p + 1) + j = (A.length + (j + 1)) + 1 + 1 from by rw [HA.out]; omega]
    simp only [List.getElem?_toArray, List.getElem?_cons_succ, List.map_append, List.map_cons]
    rw [List.getElem?_append_right (by simp), List.length_map, Nat.add_sub_cancel_left, List.getElem?_cons_succ, List.getElem?_append_left (by omega)]
    exact hj
  have HROW := Lib.hid hrow
  have HSRC := Lib.hid hsrc
  have HCSL := Lib.hid hcsl
  clear hrow hsrc hcsl
  obtain ⟨z, hz⟩ := row_back A M R t (.int .i64 n)
  have HZ := Lib.hid hz
  clear hz
  have hfinal : ∀ w', Hid (w'.heap[g]? = some (.cells (splice (.bool true :: .int .i64 n :: (A ++ t :: (M ++ R)).map (Value.int .i64)) (2 + p) (M.map (Value.int .i64))).toArray 102 (0, 0))) → Box w' g (A ++ (M ++ z :: R)) n := by
    intro w' hw
    refine ⟨by rw [← HZ.out, HA.out]; exact hw.out, ?_, by omega⟩
    have := HBW.out.len
    rw [HX.out] at this
    simp at this ⊢
    omega
  have HFIN := Lib.hid hfinal
  clear hfinal
  by_cases hlast : p = 15
  · subst hlast
    obtain rfl : n = 16 := by omega
    have hM0 : M = [] := List.eq_nil_of_length_eq_zero (by have := HM.out; have := HA.out; omega)
    subst hM0
    have hbox : Box W g (A ++ t :: ([] ++ R)) 16 := by rw [← HX.out]; exact HBW.out
    have HBX := Lib.hid hbox
    clear hbox k1 k2 k3 k4 k5 k6
    have k8 : IntKind.i64.wrap 16 = 16 := by decide
    go_still_tail 15, (by kernel_rfl)
    refine wpList_copy_nothing rfl (.tmp 20) (.tmp 30) 59 59 rfl 3 Tryz.underlying59 (by kernel_rfl) _ _ _ _ _ _ rfl rfl ?hn ?_
    case hn => rfl
    clear k8 c1W
    have d1 : W.cell? ⟨g, 1, none⟩ = some (.int .i64 16) := HBX.out.count
    have f1 : W.frozen? ⟨g, 1, none⟩ = false := HBX.out.free 1
    go_wp2
    go_ret
    have hst := HBX.out.recount 15 (by omega)
    exact ⟨rfl, A, [], R, t, HTK.out, ⟨hst.row, hst.len, hst.le⟩, grown_trans HWB.out (set_grown _)⟩
  · have k7 : ¬ 16 = p + 1 := by omega
    go_still_tail 15, (by kernel_rfl)
    refine wpList_copy_splice_g rfl (.tmp 20) (.tmp 30) 59 59 rfl 3 Tryz.underlying59 (by kernel_rfl) _ _ _ _ _ _ rfl rfl g (2 + p) _ 102 HROW.out (M.map (Value.int .i64)) ?_ ?_ ?_ ?_ w HWB.out ?_
    · rw [HCSL.out]; exact (Nat.min_eq_left (by omega)).symm
    · intro _
      exact ⟨rfl, _, rfl, HSRC.out⟩
    · have e1 := HA.out
      have e2 := HM.out
      simp
      omega
    · intro u hu
      simp only [List.mem_map] at hu
      obtain ⟨x, _, rfl⟩ := hu
      rfl
    · intro w' hw hb
      have hbox := HFIN.out w' hw
      clear k1 k2 k3 k4 k5 k6 k7 c1W
      have HBX := Lib.hid hbox
      have d1 := hbox.count
      have f1 := hbox.free 1
      have hpos : 1 ≤ n := by omega
      clear hbox
      go_wp2
      go_ret
      have hst := HBX.out.recount (n - 1) (by omega)
      rw [show ((n - 1 : Nat) : Int) = (n : Int) - 1 from by omega] at hst
      exact ⟨rfl, A, M, R, z, HTK.out, hst, grown_trans hb (set_grown _)⟩
end Go.Proofs.YtceiipcdkonnlaaGreat.Inb

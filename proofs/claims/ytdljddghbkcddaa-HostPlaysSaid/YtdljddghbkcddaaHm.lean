/-
  LAYER 34: the document's Take of a name that was not there.
-/
import Derived.Test.YtdljddghbkcddaaHl
namespace Go.Proofs.Ytdljddghbkcddaa.Hst
open Go.RowKit Go.Maps Go.WideMaps
section
variable {B : Nat} {w w' : World} {x : Nat} {v : Value} {L : List Host}
/-- A name is not there. -/
def Not (L : List Host) (k : ByteArray) : Prop := ∀ e ∈ L, e.1 ≠ k
theorem ne_toList {a b : ByteArray} (h : a ≠ b) : (a.toList == b.toList) = false := by
  rw [beq_eq_false_iff_ne]
  intro e
  refine h ?_
  rw [ByteArray.toList_eq, ByteArray.toList_eq] at e
  cases a; cases b; simp only [Array.toList_inj] at e; rw [e]
def ins (L : List Host) (k : ByteArray) (on : Bool) : List Host := L.take (px L k) ++ [(k, on)] ++ L.drop (px L k)
theorem hcC_append (l m : List Host) : hcC (l ++ m) = hcC l ++ hcC m := by simp [hcC]
set_option maxHeartbeats 4000000 in
set_option maxRecDepth 100000 in
theorem xtake_full (h : Xh B w x v L) (hL : L.length = 4) {k : ByteArray} (hk : k.toList.isEmpty = false) (on : Bool) (hno : Not L k) :
    Calls Try.prog 22 #[.pointer (some ⟨x, 0, none⟩), .string k, .string (tOf on)] w fun y w' => y = .returned (.int .i64 8) ∧ w = w' := by
  have hpl : px L k ≤ L.length := List.findIdx_le_length
  obtain ⟨gb, cb, hv⟩ := own_slice' h.its (by omega)
  have c0 := h.c0
  rw [hv] at c0
  have hpl' : (px L k : Int) ≤ (L.length : Int) := by omega
  have hL' : (L.length : Int) ≤ 4 := by omega
  have LO : Hid (∀ i, i < px L k → ∃ n : ByteArray, w.cell? ⟨gb, i * 2, none⟩ = some (.string n) ∧ Op.bytesLess n.toList k.toList = true) := Lib.hid fun i hi => by
    obtain ⟨y, hy⟩ : ∃ y, L[i]? = some y := ⟨_, List.getElem?_eq_getElem (by omega)⟩
    exact ⟨y.1, (h.at hv hy).1, px_lo hi hy⟩
  have HIT : Hid (px L k < L.length → ∃ n : ByteArray, w.cell? ⟨gb, px L k * 2, none⟩ = some (.string n) ∧ Op.bytesLess n.toList k.toList = false ∧ (n.toList == k.toList) = false) := Lib.hid fun hi => by
    obtain ⟨y, hy⟩ : ∃ y, L[px L k]? = some y := ⟨_, List.getElem?_eq_getElem hi⟩
    exact ⟨y.1, (h.at hv hy).1, px_hit hy, ne_toList (hno y (List.mem_of_getElem? hy))⟩
  have hL4 : (L.length : Int) = 4 := by omega
  generalize px L k = p at *
  clear h hv
  unfold tOf tON tOFF
  by_cases hp : p < L.length
  · obtain ⟨n, q0, q1, q2⟩ := HIT.out hp
    have hp' : (p : Int) < (L.length : Int) := by omega
    clear HIT
    cases on
    all_goals
      simp only [if_true, Bool.false_eq_true, if_false] at *
      go_enter Try.func22, Try.ntmps22
      go_wp2_with fail
      go_loopw [7] (fun iv wr => ∃ i : Nat, iv = .int .i64 (i : Int) ∧ i ≤ p ∧ w = wr) (fun iv _ => L.length - (intOf iv).toNat)
      case atStart => exact ⟨0, rfl, by omega, rfl⟩
      case round =>
        obtain ⟨i, rfl, hi, rfl⟩ := hrel
        by_cases hq : i < p
        · obtain ⟨n, q0, q1⟩ := LO.out i hq
          have hlt' : (i : Int) < (L.length : Int) := by omega
          go_wp2_with fail
          go_roundw
          case rel => exact ⟨i + 1, by simp, by omega, trivial⟩
          case measure => simp [intOf]; omega
        · obtain rfl : p = i := by omega
          clear hq hi
          go_wp2
          go_ret
          exact ⟨rfl, rfl⟩
  · have hp' : ¬ (p : Int) < (L.length : Int) := by omega
    clear HIT
    cases on
    all_goals
      simp only [if_true, Bool.false_eq_true, if_false] at *
      go_enter Try.func22, Try.ntmps22
      go_wp2_with fail
      go_loopw [7] (fun iv wr => ∃ i : Nat, iv = .int .i64 (i : Int) ∧ i ≤ p ∧ w = wr) (fun iv _ => L.length - (intOf iv).toNat)
      case atStart => exact ⟨0, rfl, by omega, rfl⟩
      case round =>
        obtain ⟨i, rfl, hi, rfl⟩ := hrel
        by_cases hq : i < p
        · obtain ⟨n, q0, q1⟩ := LO.out i hq
          have hlt' : (i : Int) < (L.length : Int) := by omega
          go_wp2_with fail
          go_roundw
          case rel => exact ⟨i + 1, by simp, by omega, trivial⟩
          case measure => simp [intOf]; omega
        · obtain rfl : p = i := by omega
          clear hq hi
          go_wp2
          go_ret
          exact ⟨rfl, rfl⟩
set_option maxHeartbeats 8000000 in
set_option maxRecDepth 100000 in
theorem xtake_new_on (h : Xh B w x v L) (hB : B ≤ w.heap.size) (hL : L.length < 4) (hn0 : 0 < L.length) {k : ByteArray} (hk : k.toList.isEmpty = false) (hno : Not L k) :
    Calls Try.prog 22 #[.pointer (some ⟨x, 0, none⟩), .string k, .string (tOf true)] w fun y w' => y = .returned (.int .i64 1) ∧ ∃ v', XNw B w w' x v (ins L k true) v' := by
  obtain ⟨i63, hi63, hz0, hz1, hz2⟩ := info63'
  have hpl : px L k ≤ L.length := List.findIdx_le_length
  obtain ⟨gb, cb, hv⟩ := own_slice' h.its (by omega)
  have c0 := h.c0
  rw [hv] at c0
  have hpl' : (px L k : Int) ≤ (L.length : Int) := by omega
  have hL' : (L.length : Int) ≤ 4 := by omega
  have LO : Hid (∀ i, i < px L k → ∃ n : ByteArray, w.cell? ⟨gb, i * 2, none⟩ = some (.string n) ∧ Op.bytesLess n.toList k.toList = true) := Lib.hid fun i hi => by
    obtain ⟨y, hy⟩ : ∃ y, L[i]? = some y := ⟨_, List.getElem?_eq_getElem (by omega)⟩
    exact ⟨y.1, (h.at hv hy).1, px_lo hi hy⟩
  have HIT : Hid (px L k < L.length → ∃ n : ByteArray, w.cell? ⟨gb, px L k * 2, none⟩ = some (.string n) ∧ Op.bytesLess n.toList k.toList = false ∧ (n.toList == k.toList) = false) := Lib.hid fun hi => by
    obtain ⟨y, hy⟩ : ∃ y, L[px L k]? = some y := ⟨_, List.getElem?_eq_getElem hi⟩
    exact ⟨y.1, (h.at hv hy).1, px_hit hy, ne_toList (hno y (List.mem_of_getElem? hy))⟩
  obtain ⟨hcb, hcm⟩ := own_cap (hv ▸ h.its)
  have f1 := h.fz 0
  have xlt := h.lt
  have hcb' : (L.length : Int) ≤ (cb : Int) := by omega
  have hcm' : (cb : Int) ≤ 9223372036854775807 := by unfold maxLen at hcm; omega
  have hL4 : (L.length : Int) < 4 := by omega
  have H := Lib.hid h
  have HV := Lib.hid hv
  have hins : ins L k true = L.take (px L k) ++ [(k, true)] ++ L.drop (px L k) := rfl
  replace hins := Lib.hid hins
  generalize px L k = p at *
  have oA := Lib.hid (show (w.alloc (.cells #[] 63)).ownsRow w.heap.size 63 2 (.slice (some ⟨w.heap.size, 0, none⟩) 0 0) 0 [] from ⟨rfl, .inr ⟨_, 0, #[], rfl, Nat.le_refl _, heap_alloc_new w _, Nat.le_refl _, Nat.zero_le _, rfl, rfl⟩⟩)
  have nA : Hid (∀ W : World, Below w.heap.size w W → ∀ j u, (hcC (L.take p))[j]? = some u → W.cell? ((⟨gb, 0, none⟩ : Addr).add j) = some u) := Lib.hid fun W hW j u hj => by
    have o := own_keep H.out.its hW
    rw [HV.out] at o
    rw [add_off2, Nat.zero_add]
    refine own_get o ?_
    have hjl := (List.getElem?_eq_some_iff.1 hj).1
    have e : hcC L = hcC (L.take p) ++ hcC (L.drop p) := by rw [← hcC_append, List.take_append_drop]
    rw [e, List.getElem?_append_left hjl]; exact hj
  have nC : Hid (∀ W : World, W.ownsRow B 63 2 v L.length (hcC L) → ∀ j u, (hcC (L.drop p))[j]? = some u → W.cell? ((⟨gb, p * 2, none⟩ : Addr).add j) = some u) := Lib.hid fun W o j u hj => by
    rw [HV.out] at o
    rw [add_off2]
    refine own_get o ?_
    have e : hcC L = hcC (L.take p) ++ hcC (L.drop p) := by rw [← hcC_append, List.take_append_drop]
    have hl : (hcC (L.take p)).length = p * 2 := by rw [hcC_len, List.length_take]; omega
    rw [e, List.getElem?_append_right (by omega), hl, Nat.add_sub_cancel_left]; exact hj
  have ltA : (hcC (L.take p)).length = p * 2 := by rw [hcC_len, List.length_take]; omega
  have ltC : (hcC (L.drop p)).length = (L.length - p) * 2 := by rw [hcC_len, List.length_drop]
  replace ltA := Lib.hid ltA
  replace ltC := Lib.hid ltC
  have FIN : Hid (∀ (W : World) v', Below w.heap.size w W → W.ownsRow w.heap.size 63 2 v' (ins L k true).length (hcC (ins L k true)) → XNw B w (W.setCell ⟨x, 0, none⟩ v') x v (ins L k true) v') := Lib.hid fun W v' hW o => xh_end H.out hW hB o
  have one2 : Hid (∀ u ∈ ([Value.string k, .bool true] : List Value), u.oneCell' = true) := Lib.hid (by intro u hu; simp at hu; rcases hu with rfl | rfl <;> rfl)
  clear h hv
  unfold tOf tON tOFF
  simp only [if_true, Bool.false_eq_true, if_false]
  by_cases hp : p < L.length
  · obtain ⟨n, q0, q1, q2⟩ := HIT.out hp
    have hp' : (p : Int) < (L.length : Int) := by omega
    have hcp' : (p : Int) < (cb : Int) := by omega
    have hcp2 : ¬ cb = p := by omega
    clear HIT
    · skip
      go_enter Try.func22, Try.ntmps22
      go_wp2_with fail
      go_loopw [7] (fun iv wr => ∃ i : Nat, iv = .int .i64 (i : Int) ∧ i ≤ p ∧ w = wr) (fun iv _ => L.length - (intOf iv).toNat)
      case atStart => exact ⟨0, rfl, by omega, rfl⟩
      case round =>
        obtain ⟨i, rfl, hi, rfl⟩ := hrel
        by_cases hq : i < p
        · obtain ⟨n, q0, q1⟩ := LO.out i hq
          have hlt' : (i : Int) < (L.length : Int) := by omega
          go_wp2_with fail
          go_roundw
          case rel => exact ⟨i + 1, by simp, by omega, trivial⟩
          case measure => simp [intOf]; omega
        · obtain rfl : p = i := by omega
          clear hq hi
          go_wp2_with (first
            | (at_builtin; refine wpList_append_own _ rfl (.tmp 72) (.tmp 78) 57 rfl w.heap.size 63 i63 zH 2 24 Try.underlying57 hi63 hz0 hz1 hz2 rfl (by decide) (.slice (some ⟨w.heap.size, 0, none⟩) 0 0) 0 [] rfl oA.out ⟨gb, 0, none⟩ p cb (hcC (L.take p)) rfl ltA.out (nA.out _ (ext_alloc w _)) (hcC_one _) (by unfold maxLen; omega) (by omega) (by simp) ?_; intro v3 w3 o3 g3 _
               have BW3 := Lib.hid ((ext_alloc w (.cells #[] 63)).grown g3 (by simp) (fun k hk => by simp [Value.ownBlock] at hk; omega))
               have o3' : w3.ownsRow w.heap.size 63 2 v3 p (hcC (L.take p)) := by simpa using o3
               obtain ⟨va3, vc3, rfl⟩ := own_slice o3'
               have oB := Lib.hid (own_keep o3' (ext_alloc w3 (.cells #[.string k, .bool true] 63)))
               have z3 : w.heap.size ≤ w3.heap.size := BW3.out.size
               have nB : Hid (∀ j u, ([Value.string k, .bool true] : List Value)[j]? = some u → (w3.alloc (.cells #[.string k, .bool true] 63)).cell? ((⟨w3.heap.size, 0, none⟩ : Addr).add j) = some u) := Lib.hid (by
                 intro j u hj
                 have := cell_of_row (w3.alloc (.cells #[.string k, .bool true] 63)) w3.heap.size j _ 63 (0, 0) (heap_alloc_new w3 _)
                 rw [add_off2, Nat.zero_add, this, ← hj]
                 simp)
               clear o3 o3' g3)
            | (at_builtin; refine wpList_append_own _ rfl (.tmp 80) (.tmp 85) 57 rfl w.heap.size 63 i63 zH 2 24 Try.underlying57 hi63 hz0 hz1 hz2 rfl (by decide) (.slice va3 p vc3) p (hcC (L.take p)) rfl oB.out ⟨w3.heap.size, 0, none⟩ 1 1 [.string k, .bool true] rfl rfl nB.out one2.out (by unfold maxLen; omega) (by omega) (by simp; omega) ?_; intro v4 w4 o4 g4 _
               have BW4 := Lib.hid ((BW3.out.alloc BW3.out.size (.cells #[.string k, .bool true] 63)).grown g4 (by have := BW3.out.size; simp; omega) (fun k hk => (oB.out.lt k hk).1))
               obtain ⟨va4, vc4, rfl⟩ := own_slice o4
               have d4 := (BW4.out.cell (p := ⟨x, 0, none⟩) xlt).trans c0
               have n4 := Lib.hid (nC.out w4 (own_keep H.out.its BW4.out))
               have o4' := Lib.hid o4
               have z4 : w.heap.size ≤ w4.heap.size := BW4.out.size
               clear o4 g4)
            | (at_builtin; refine wpList_append_own _ rfl (.tmp 87) (.tmp 93) 57 rfl w.heap.size 63 i63 zH 2 24 Try.underlying57 hi63 hz0 hz1 hz2 rfl (by decide) (.slice va4 (p + 1) vc4) (p + 1) (hcC (L.take p) ++ [.string k, .bool true]) rfl o4'.out ⟨gb, p * 2, none⟩ (L.length - p) (cb - p) (hcC (L.drop p)) rfl ltC.out n4.out (hcC_one _) (by unfold maxLen; omega) (by omega) (by omega) ?_; intro v5 w5 o5 g5 _
               have BW5 := Lib.hid (BW4.out.grown g5 (by have := BW4.out.size; omega) (fun k hk => (o4'.out.lt k hk).1))
               obtain ⟨va5, vc5, rfl⟩ := own_slice o5
               have d5 := (BW5.out.cell (p := ⟨x, 0, none⟩) xlt).trans c0
               have f5 := (BW5.out.frozen (p := ⟨x, 0, none⟩) xlt).trans f1
               have o5' := Lib.hid o5
               clear o5 g5))
          go_ret
          exact ⟨rfl, _, FIN.out w5 _ BW5.out (by
            rw [hins.out, show (L.take p ++ [((k, true) : Host)] ++ L.drop p).length = p + 1 + (L.length - p) by simp; omega, hcC_append, hcC_append]; exact o5'.out)⟩
  · have hp' : ¬ (p : Int) < (L.length : Int) := by omega
    clear HIT
    rcases Nat.lt_or_eq_of_le (show p ≤ cb by omega) with hcp | hcp
    · have hcp' : (p : Int) < (cb : Int) := by omega
      have hcp2 : ¬ cb = p := by omega
      go_enter Try.func22, Try.ntmps22
      go_wp2_with fail
      go_loopw [7] (fun iv wr => ∃ i : Nat, iv = .int .i64 (i : Int) ∧ i ≤ p ∧ w = wr) (fun iv _ => L.length - (intOf iv).toNat)
      case atStart => exact ⟨0, rfl, by omega, rfl⟩
      case round =>
        obtain ⟨i, rfl, hi, rfl⟩ := hrel
        by_cases hq : i < p
        · obtain ⟨n, q0, q1⟩ := LO.out i hq
          have hlt' : (i : Int) < (L.length : Int) := by omega
          go_wp2_with fail
          go_roundw
          case rel => exact ⟨i + 1, by simp, by omega, trivial⟩
          case measure => simp [intOf]; omega
        · obtain rfl : p = i := by omega
          clear hq hi
          go_wp2_with (first
            | (at_builtin; refine wpList_append_own _ rfl (.tmp 72) (.tmp 78) 57 rfl w.heap.size 63 i63 zH 2 24 Try.underlying57 hi63 hz0 hz1 hz2 rfl (by decide) (.slice (some ⟨w.heap.size, 0, none⟩) 0 0) 0 [] rfl oA.out ⟨gb, 0, none⟩ p cb (hcC (L.take p)) rfl ltA.out (nA.out _ (ext_alloc w _)) (hcC_one _) (by unfold maxLen; omega) (by omega) (by simp) ?_; intro v3 w3 o3 g3 _
               have BW3 := Lib.hid ((ext_alloc w (.cells #[] 63)).grown g3 (by simp) (fun k hk => by simp [Value.ownBlock] at hk; omega))
               have o3' : w3.ownsRow w.heap.size 63 2 v3 p (hcC (L.take p)) := by simpa using o3
               obtain ⟨va3, vc3, rfl⟩ := own_slice o3'
               have oB := Lib.hid (own_keep o3' (ext_alloc w3 (.cells #[.string k, .bool true] 63)))
               have z3 : w.heap.size ≤ w3.heap.size := BW3.out.size
               have nB : Hid (∀ j u, ([Value.string k, .bool true] : List Value)[j]? = some u → (w3.alloc (.cells #[.string k, .bool true] 63)).cell? ((⟨w3.heap.size, 0, none⟩ : Addr).add j) = some u) := Lib.hid (by
                 intro j u hj
                 have := cell_of_row (w3.alloc (.cells #[.string k, .bool true] 63)) w3.heap.size j _ 63 (0, 0) (heap_alloc_new w3 _)
                 rw [add_off2, Nat.zero_add, this, ← hj]
                 simp)
               clear o3 o3' g3)
            | (at_builtin; refine wpList_append_own _ rfl (.tmp 80) (.tmp 85) 57 rfl w.heap.size 63 i63 zH 2 24 Try.underlying57 hi63 hz0 hz1 hz2 rfl (by decide) (.slice va3 p vc3) p (hcC (L.take p)) rfl oB.out ⟨w3.heap.size, 0, none⟩ 1 1 [.string k, .bool true] rfl rfl nB.out one2.out (by unfold maxLen; omega) (by omega) (by simp; omega) ?_; intro v4 w4 o4 g4 _
               have BW4 := Lib.hid ((BW3.out.alloc BW3.out.size (.cells #[.string k, .bool true] 63)).grown g4 (by have := BW3.out.size; simp; omega) (fun k hk => (oB.out.lt k hk).1))
               obtain ⟨va4, vc4, rfl⟩ := own_slice o4
               have d4 := (BW4.out.cell (p := ⟨x, 0, none⟩) xlt).trans c0
               have n4 := Lib.hid (nC.out w4 (own_keep H.out.its BW4.out))
               have o4' := Lib.hid o4
               have z4 : w.heap.size ≤ w4.heap.size := BW4.out.size
               clear o4 g4)
            | (at_builtin; refine wpList_append_own _ rfl (.tmp 87) (.tmp 93) 57 rfl w.heap.size 63 i63 zH 2 24 Try.underlying57 hi63 hz0 hz1 hz2 rfl (by decide) (.slice va4 (p + 1) vc4) (p + 1) (hcC (L.take p) ++ [.string k, .bool true]) rfl o4'.out ⟨gb, p * 2, none⟩ (L.length - p) (cb - p) (hcC (L.drop p)) rfl ltC.out n4.out (hcC_one _) (by unfold maxLen; omega) (by omega) (by omega) ?_; intro v5 w5 o5 g5 _
               have BW5 := Lib.hid (BW4.out.grown g5 (by have := BW4.out.size; omega) (fun k hk => (o4'.out.lt k hk).1))
               obtain ⟨va5, vc5, rfl⟩ := own_slice o5
               have d5 := (BW5.out.cell (p := ⟨x, 0, none⟩) xlt).trans c0
               have f5 := (BW5.out.frozen (p := ⟨x, 0, none⟩) xlt).trans f1
               have o5' := Lib.hid o5
               clear o5 g5))
          go_ret
          exact ⟨rfl, _, FIN.out w5 _ BW5.out (by
            rw [hins.out, show (L.take p ++ [((k, true) : Host)] ++ L.drop p).length = p + 1 + (L.length - p) by simp; omega, hcC_append, hcC_append]; exact o5'.out)⟩
    · subst hcp
      go_enter Try.func22, Try.ntmps22
      go_wp2_with fail
      go_loopw [7] (fun iv wr => ∃ i : Nat, iv = .int .i64 (i : Int) ∧ i ≤ p ∧ w = wr) (fun iv _ => L.length - (intOf iv).toNat)
      case atStart => exact ⟨0, rfl, by omega, rfl⟩
      case round =>
        obtain ⟨i, rfl, hi, rfl⟩ := hrel
        by_cases hq : i < p
        · obtain ⟨n, q0, q1⟩ := LO.out i hq
          have hlt' : (i : Int) < (L.length : Int) := by omega
          go_wp2_with fail
          go_roundw
          case rel => exact ⟨i + 1, by simp, by omega, trivial⟩
          case measure => simp [intOf]; omega
        · obtain rfl : p = i := by omega
          clear hq hi
          go_wp2_with (first
            | (at_builtin; refine wpList_append_own _ rfl (.tmp 72) (.tmp 78) 57 rfl w.heap.size 63 i63 zH 2 24 Try.underlying57 hi63 hz0 hz1 hz2 rfl (by decide) (.slice (some ⟨w.heap.size, 0, none⟩) 0 0) 0 [] rfl oA.out ⟨gb, 0, none⟩ p p (hcC (L.take p)) rfl ltA.out (nA.out _ (ext_alloc w _)) (hcC_one _) (by unfold maxLen; omega) (by omega) (by simp) ?_; intro v3 w3 o3 g3 _
               have BW3 := Lib.hid ((ext_alloc w (.cells #[] 63)).grown g3 (by simp) (fun k hk => by simp [Value.ownBlock] at hk; omega))
               have o3' : w3.ownsRow w.heap.size 63 2 v3 p (hcC (L.take p)) := by simpa using o3
               obtain ⟨va3, vc3, rfl⟩ := own_slice o3'
               have oB := Lib.hid (own_keep o3' (ext_alloc w3 (.cells #[.string k, .bool true] 63)))
               have z3 : w.heap.size ≤ w3.heap.size := BW3.out.size
               have nB : Hid (∀ j u, ([Value.string k, .bool true] : List Value)[j]? = some u → (w3.alloc (.cells #[.string k, .bool true] 63)).cell? ((⟨w3.heap.size, 0, none⟩ : Addr).add j) = some u) := Lib.hid (by
                 intro j u hj
                 have := cell_of_row (w3.alloc (.cells #[.string k, .bool true] 63)) w3.heap.size j _ 63 (0, 0) (heap_alloc_new w3 _)
                 rw [add_off2, Nat.zero_add, this, ← hj]
                 simp)
               clear o3 o3' g3)
            | (at_builtin; refine wpList_append_own _ rfl (.tmp 80) (.tmp 85) 57 rfl w.heap.size 63 i63 zH 2 24 Try.underlying57 hi63 hz0 hz1 hz2 rfl (by decide) (.slice va3 p vc3) p (hcC (L.take p)) rfl oB.out ⟨w3.heap.size, 0, none⟩ 1 1 [.string k, .bool true] rfl rfl nB.out one2.out (by unfold maxLen; omega) (by omega) (by simp; omega) ?_; intro v4 w4 o4 g4 _
               have BW4 := Lib.hid ((BW3.out.alloc BW3.out.size (.cells #[.string k, .bool true] 63)).grown g4 (by have := BW3.out.size; simp; omega) (fun k hk => (oB.out.lt k hk).1))
               obtain ⟨va4, vc4, rfl⟩ := own_slice o4
               have d4 := (BW4.out.cell (p := ⟨x, 0, none⟩) xlt).trans c0
               have n4 := Lib.hid (nC.out w4 (own_keep H.out.its BW4.out))
               have o4' := Lib.hid o4
               have z4 : w.heap.size ≤ w4.heap.size := BW4.out.size
               clear o4 g4)
            | (at_builtin; refine wpList_append_own _ rfl (.tmp 87) (.tmp 93) 57 rfl w.heap.size 63 i63 zH 2 24 Try.underlying57 hi63 hz0 hz1 hz2 rfl (by decide) (.slice va4 (p + 1) vc4) (p + 1) (hcC (L.take p) ++ [.string k, .bool true]) rfl o4'.out _ 0 _ [] rfl rfl (by intro j u hj; simp at hj) (by intro u hu; simp at hu) (by unfold maxLen; omega) (by omega) (by omega) ?_; intro v5 w5 o5 g5 _
               have BW5 := Lib.hid (BW4.out.grown g5 (by have := BW4.out.size; omega) (fun k hk => (o4'.out.lt k hk).1))
               obtain ⟨va5, vc5, rfl⟩ := own_slice o5
               have d5 := (BW5.out.cell (p := ⟨x, 0, none⟩) xlt).trans c0
               have f5 := (BW5.out.frozen (p := ⟨x, 0, none⟩) xlt).trans f1
               have o5' := Lib.hid o5
               clear o5 g5))
          go_ret
          exact ⟨rfl, _, FIN.out w5 _ BW5.out (by
            rw [hins.out, List.drop_eq_nil_of_le hcb, List.append_nil]
            rw [show (L.take p ++ [((k, true) : Host)]).length = p + 1 + 0 by simp; omega, hcC_append]
            have := o5'.out
            rw [List.append_nil] at this
            exact this)⟩
set_option maxHeartbeats 8000000 in
set_option maxRecDepth 100000 in
theorem xtake_new_off (h : Xh B w x v L) (hB : B ≤ w.heap.size) (hL : L.length < 4) (hn0 : 0 < L.length) {k : ByteArray} (hk : k.toList.isEmpty = false) (hno : Not L k) :
    Calls Try.prog 22 #[.pointer (some ⟨x, 0, none⟩), .string k, .string (tOf false)] w fun y w' => y = .returned (.int .i64 1) ∧ ∃ v', XNw B w w' x v (ins L k false) v' := by
  obtain ⟨i63, hi63, hz0, hz1, hz2⟩ := info63'
  have hpl : px L k ≤ L.length := List.findIdx_le_length
  obtain ⟨gb, cb, hv⟩ := own_slice' h.its (by omega)
  have c0 := h.c0
  rw [hv] at c0
  have hpl' : (px L k : Int) ≤ (L.length : Int) := by omega
  have hL' : (L.length : Int) ≤ 4 := by omega
  have LO : Hid (∀ i, i < px L k → ∃ n : ByteArray, w.cell? ⟨gb, i * 2, none⟩ = some (.string n) ∧ Op.bytesLess n.toList k.toList = true) := Lib.hid fun i hi => by
    obtain ⟨y, hy⟩ : ∃ y, L[i]? = some y := ⟨_, List.getElem?_eq_getElem (by omega)⟩
    exact ⟨y.1, (h.at hv hy).1, px_lo hi hy⟩
  have HIT : Hid (px L k < L.length → ∃ n : ByteArray, w.cell? ⟨gb, px L k * 2, none⟩ = some (.string n) ∧ Op.bytesLess n.toList k.toList = false ∧ (n.toList == k.toList) = false) := Lib.hid fun hi => by
    obtain ⟨y, hy⟩ : ∃ y, L[px L k]? = some y := ⟨_, List.getElem?_eq_getElem hi⟩
    exact ⟨y.1, (h.at hv hy).1, px_hit hy, ne_toList (hno y (List.mem_of_getElem? hy))⟩
  obtain ⟨hcb, hcm⟩ := own_cap (hv ▸ h.its)
  have f1 := h.fz 0
  have xlt := h.lt
  have hcb' : (L.length : Int) ≤ (cb : Int) := by omega
  have hcm' : (cb : Int) ≤ 9223372036854775807 := by unfold maxLen at hcm; omega
  have hL4 : (L.length : Int) < 4 := by omega
  have H := Lib.hid h
  have HV := Lib.hid hv
  have hins : ins L k false = L.take (px L k) ++ [(k, false)] ++ L.drop (px L k) := rfl
  replace hins := Lib.hid hins
  generalize px L k = p at *
  have oA := Lib.hid (show (w.alloc (.cells #[] 63)).ownsRow w.heap.size 63 2 (.slice (some ⟨w.heap.size, 0, none⟩) 0 0) 0 [] from ⟨rfl, .inr ⟨_, 0, #[], rfl, Nat.le_refl _, heap_alloc_new w _, Nat.le_refl _, Nat.zero_le _, rfl, rfl⟩⟩)
  have nA : Hid (∀ W : World, Below w.heap.size w W → ∀ j u, (hcC (L.take p))[j]? = some u → W.cell? ((⟨gb, 0, none⟩ : Addr).add j) = some u) := Lib.hid fun W hW j u hj => by
    have o := own_keep H.out.its hW
    rw [HV.out] at o
    rw [add_off2, Nat.zero_add]
    refine own_get o ?_
    have hjl := (List.getElem?_eq_some_iff.1 hj).1
    have e : hcC L = hcC (L.take p) ++ hcC (L.drop p) := by rw [← hcC_append, List.take_append_drop]
    rw [e, List.getElem?_append_left hjl]; exact hj
  have nC : Hid (∀ W : World, W.ownsRow B 63 2 v L.length (hcC L) → ∀ j u, (hcC (L.drop p))[j]? = some u → W.cell? ((⟨gb, p * 2, none⟩ : Addr).add j) = some u) := Lib.hid fun W o j u hj => by
    rw [HV.out] at o
    rw [add_off2]
    refine own_get o ?_
    have e : hcC L = hcC (L.take p) ++ hcC (L.drop p) := by rw [← hcC_append, List.take_append_drop]
    have hl : (hcC (L.take p)).length = p * 2 := by rw [hcC_len, List.length_take]; omega
    rw [e, List.getElem?_append_right (by omega), hl, Nat.add_sub_cancel_left]; exact hj
  have ltA : (hcC (L.take p)).length = p * 2 := by rw [hcC_len, List.length_take]; omega
  have ltC : (hcC (L.drop p)).length = (L.length - p) * 2 := by rw [hcC_len, List.length_drop]
  replace ltA := Lib.hid ltA
  replace ltC := Lib.hid ltC
  have FIN : Hid (∀ (W : World) v', Below w.heap.size w W → W.ownsRow w.heap.size 63 2 v' (ins L k false).length (hcC (ins L k false)) → XNw B w (W.setCell ⟨x, 0, none⟩ v') x v (ins L k false) v') := Lib.hid fun W v' hW o => xh_end H.out hW hB o
  have one2 : Hid (∀ u ∈ ([Value.string k, .bool false] : List Value), u.oneCell' = true) := Lib.hid (by intro u hu; simp at hu; rcases hu with rfl | rfl <;> rfl)
  clear h hv
  unfold tOf tON tOFF
  simp only [if_true, Bool.false_eq_true, if_false]
  by_cases hp : p < L.length
  · obtain ⟨n, q0, q1, q2⟩ := HIT.out hp
    have hp' : (p : Int) < (L.length : Int) := by omega
    have hcp' : (p : Int) < (cb : Int) := by omega
    have hcp2 : ¬ cb = p := by omega
    clear HIT
    · skip
      go_enter Try.func22, Try.ntmps22
      go_wp2_with fail
      go_loopw [7] (fun iv wr => ∃ i : Nat, iv = .int .i64 (i : Int) ∧ i ≤ p ∧ w = wr) (fun iv _ => L.length - (intOf iv).toNat)
      case atStart => exact ⟨0, rfl, by omega, rfl⟩
      case round =>
        obtain ⟨i, rfl, hi, rfl⟩ := hrel
        by_cases hq : i < p
        · obtain ⟨n, q0, q1⟩ := LO.out i hq
          have hlt' : (i : Int) < (L.length : Int) := by omega
          go_wp2_with fail
          go_roundw
          case rel => exact ⟨i + 1, by simp, by omega, trivial⟩
          case measure => simp [intOf]; omega
        · obtain rfl : p = i := by omega
          clear hq hi
          go_wp2_with (first
            | (at_builtin; refine wpList_append_own _ rfl (.tmp 72) (.tmp 78) 57 rfl w.heap.size 63 i63 zH 2 24 Try.underlying57 hi63 hz0 hz1 hz2 rfl (by decide) (.slice (some ⟨w.heap.size, 0, none⟩) 0 0) 0 [] rfl oA.out ⟨gb, 0, none⟩ p cb (hcC (L.take p)) rfl ltA.out (nA.out _ (ext_alloc w _)) (hcC_one _) (by unfold maxLen; omega) (by omega) (by simp) ?_; intro v3 w3 o3 g3 _
               have BW3 := Lib.hid ((ext_alloc w (.cells #[] 63)).grown g3 (by simp) (fun k hk => by simp [Value.ownBlock] at hk; omega))
               have o3' : w3.ownsRow w.heap.size 63 2 v3 p (hcC (L.take p)) := by simpa using o3
               obtain ⟨va3, vc3, rfl⟩ := own_slice o3'
               have oB := Lib.hid (own_keep o3' (ext_alloc w3 (.cells #[.string k, .bool false] 63)))
               have z3 : w.heap.size ≤ w3.heap.size := BW3.out.size
               have nB : Hid (∀ j u, ([Value.string k, .bool false] : List Value)[j]? = some u → (w3.alloc (.cells #[.string k, .bool false] 63)).cell? ((⟨w3.heap.size, 0, none⟩ : Addr).add j) = some u) := Lib.hid (by
                 intro j u hj
                 have := cell_of_row (w3.alloc (.cells #[.string k, .bool false] 63)) w3.heap.size j _ 63 (0, 0) (heap_alloc_new w3 _)
                 rw [add_off2, Nat.zero_add, this, ← hj]
                 simp)
               clear o3 o3' g3)
            | (at_builtin; refine wpList_append_own _ rfl (.tmp 80) (.tmp 85) 57 rfl w.heap.size 63 i63 zH 2 24 Try.underlying57 hi63 hz0 hz1 hz2 rfl (by decide) (.slice va3 p vc3) p (hcC (L.take p)) rfl oB.out ⟨w3.heap.size, 0, none⟩ 1 1 [.string k, .bool false] rfl rfl nB.out one2.out (by unfold maxLen; omega) (by omega) (by simp; omega) ?_; intro v4 w4 o4 g4 _
               have BW4 := Lib.hid ((BW3.out.alloc BW3.out.size (.cells #[.string k, .bool false] 63)).grown g4 (by have := BW3.out.size; simp; omega) (fun k hk => (oB.out.lt k hk).1))
               obtain ⟨va4, vc4, rfl⟩ := own_slice o4
               have d4 := (BW4.out.cell (p := ⟨x, 0, none⟩) xlt).trans c0
               have n4 := Lib.hid (nC.out w4 (own_keep H.out.its BW4.out))
               have o4' := Lib.hid o4
               have z4 : w.heap.size ≤ w4.heap.size := BW4.out.size
               clear o4 g4)
            | (at_builtin; refine wpList_append_own _ rfl (.tmp 87) (.tmp 93) 57 rfl w.heap.size 63 i63 zH 2 24 Try.underlying57 hi63 hz0 hz1 hz2 rfl (by decide) (.slice va4 (p + 1) vc4) (p + 1) (hcC (L.take p) ++ [.string k, .bool false]) rfl o4'.out ⟨gb, p * 2, none⟩ (L.length - p) (cb - p) (hcC (L.drop p)) rfl ltC.out n4.out (hcC_one _) (by unfold maxLen; omega) (by omega) (by omega) ?_; intro v5 w5 o5 g5 _
               have BW5 := Lib.hid (BW4.out.grown g5 (by have := BW4.out.size; omega) (fun k hk => (o4'.out.lt k hk).1))
               obtain ⟨va5, vc5, rfl⟩ := own_slice o5
               have d5 := (BW5.out.cell (p := ⟨x, 0, none⟩) xlt).trans c0
               have f5 := (BW5.out.frozen (p := ⟨x, 0, none⟩) xlt).trans f1
               have o5' := Lib.hid o5
               clear o5 g5))
          go_ret
          exact ⟨rfl, _, FIN.out w5 _ BW5.out (by
            rw [hins.out, show (L.take p ++ [((k, false) : Host)] ++ L.drop p).length = p + 1 + (L.length - p) by simp; omega, hcC_append, hcC_append]; exact o5'.out)⟩
  · have hp' : ¬ (p : Int) < (L.length : Int) := by omega
    clear HIT
    rcases Nat.lt_or_eq_of_le (show p ≤ cb by omega) with hcp | hcp
    · have hcp' : (p : Int) < (cb : Int) := by omega
      have hcp2 : ¬ cb = p := by omega
      go_enter Try.func22, Try.ntmps22
      go_wp2_with fail
      go_loopw [7] (fun iv wr => ∃ i : Nat, iv = .int .i64 (i : Int) ∧ i ≤ p ∧ w = wr) (fun iv _ => L.length - (intOf iv).toNat)
      case atStart => exact ⟨0, rfl, by omega, rfl⟩
      case round =>
        obtain ⟨i, rfl, hi, rfl⟩ := hrel
        by_cases hq : i < p
        · obtain ⟨n, q0, q1⟩ := LO.out i hq
          have hlt' : (i : Int) < (L.length : Int) := by omega
          go_wp2_with fail
          go_roundw
          case rel => exact ⟨i + 1, by simp, by omega, trivial⟩
          case measure => simp [intOf]; omega
        · obtain rfl : p = i := by omega
          clear hq hi
          go_wp2_with (first
            | (at_builtin; refine wpList_append_own _ rfl (.tmp 72) (.tmp 78) 57 rfl w.heap.size 63 i63 zH 2 24 Try.underlying57 hi63 hz0 hz1 hz2 rfl (by decide) (.slice (some ⟨w.heap.size, 0, none⟩) 0 0) 0 [] rfl oA.out ⟨gb, 0, none⟩ p cb (hcC (L.take p)) rfl ltA.out (nA.out _ (ext_alloc w _)) (hcC_one _) (by unfold maxLen; omega) (by omega) (by simp) ?_; intro v3 w3 o3 g3 _
               have BW3 := Lib.hid ((ext_alloc w (.cells #[] 63)).grown g3 (by simp) (fun k hk => by simp [Value.ownBlock] at hk; omega))
               have o3' : w3.ownsRow w.heap.size 63 2 v3 p (hcC (L.take p)) := by simpa using o3
               obtain ⟨va3, vc3, rfl⟩ := own_slice o3'
               have oB := Lib.hid (own_keep o3' (ext_alloc w3 (.cells #[.string k, .bool false] 63)))
               have z3 : w.heap.size ≤ w3.heap.size := BW3.out.size
               have nB : Hid (∀ j u, ([Value.string k, .bool false] : List Value)[j]? = some u → (w3.alloc (.cells #[.string k, .bool false] 63)).cell? ((⟨w3.heap.size, 0, none⟩ : Addr).add j) = some u) := Lib.hid (by
                 intro j u hj
                 have := cell_of_row (w3.alloc (.cells #[.string k, .bool false] 63)) w3.heap.size j _ 63 (0, 0) (heap_alloc_new w3 _)
                 rw [add_off2, Nat.zero_add, this, ← hj]
                 simp)
               clear o3 o3' g3)
            | (at_builtin; refine wpList_append_own _ rfl (.tmp 80) (.tmp 85) 57 rfl w.heap.size 63 i63 zH 2 24 Try.underlying57 hi63 hz0 hz1 hz2 rfl (by decide) (.slice va3 p vc3) p (hcC (L.take p)) rfl oB.out ⟨w3.heap.size, 0, none⟩ 1 1 [.string k, .bool false] rfl rfl nB.out one2.out (by unfold maxLen; omega) (by omega) (by simp; omega) ?_; intro v4 w4 o4 g4 _
               have BW4 := Lib.hid ((BW3.out.alloc BW3.out.size (.cells #[.string k, .bool false] 63)).grown g4 (by have := BW3.out.size; simp; omega) (fun k hk => (oB.out.lt k hk).1))
               obtain ⟨va4, vc4, rfl⟩ := own_slice o4
               have d4 := (BW4.out.cell (p := ⟨x, 0, none⟩) xlt).trans c0
               have n4 := Lib.hid (nC.out w4 (own_keep H.out.its BW4.out))
               have o4' := Lib.hid o4
               have z4 : w.heap.size ≤ w4.heap.size := BW4.out.size
               clear o4 g4)
            | (at_builtin; refine wpList_append_own _ rfl (.tmp 87) (.tmp 93) 57 rfl w.heap.size 63 i63 zH 2 24 Try.underlying57 hi63 hz0 hz1 hz2 rfl (by decide) (.slice va4 (p + 1) vc4) (p + 1) (hcC (L.take p) ++ [.string k, .bool false]) rfl o4'.out ⟨gb, p * 2, none⟩ (L.length - p) (cb - p) (hcC (L.drop p)) rfl ltC.out n4.out (hcC_one _) (by unfold maxLen; omega) (by omega) (by omega) ?_; intro v5 w5 o5 g5 _
               have BW5 := Lib.hid (BW4.out.grown g5 (by have := BW4.out.size; omega) (fun k hk => (o4'.out.lt k hk).1))
               obtain ⟨va5, vc5, rfl⟩ := own_slice o5
               have d5 := (BW5.out.cell (p := ⟨x, 0, none⟩) xlt).trans c0
               have f5 := (BW5.out.frozen (p := ⟨x, 0, none⟩) xlt).trans f1
               have o5' := Lib.hid o5
               clear o5 g5))
          go_ret
          exact ⟨rfl, _, FIN.out w5 _ BW5.out (by
            rw [hins.out, show (L.take p ++ [((k, false) : Host)] ++ L.drop p).length = p + 1 + (L.length - p) by simp; omega, hcC_append, hcC_append]; exact o5'.out)⟩
    · subst hcp
      go_enter Try.func22, Try.ntmps22
      go_wp2_with fail
      go_loopw [7] (fun iv wr => ∃ i : Nat, iv = .int .i64 (i : Int) ∧ i ≤ p ∧ w = wr) (fun iv _ => L.length - (intOf iv).toNat)
      case atStart => exact ⟨0, rfl, by omega, rfl⟩
      case round =>
        obtain ⟨i, rfl, hi, rfl⟩ := hrel
        by_cases hq : i < p
        · obtain ⟨n, q0, q1⟩ := LO.out i hq
          have hlt' : (i : Int) < (L.length : Int) := by omega
          go_wp2_with fail
          go_roundw
          case rel => exact ⟨i + 1, by simp, by omega, trivial⟩
          case measure => simp [intOf]; omega
        · obtain rfl : p = i := by omega
          clear hq hi
          go_wp2_with (first
            | (at_builtin; refine wpList_append_own _ rfl (.tmp 72) (.tmp 78) 57 rfl w.heap.size 63 i63 zH 2 24 Try.underlying57 hi63 hz0 hz1 hz2 rfl (by decide) (.slice (some ⟨w.heap.size, 0, none⟩) 0 0) 0 [] rfl oA.out ⟨gb, 0, none⟩ p p (hcC (L.take p)) rfl ltA.out (nA.out _ (ext_alloc w _)) (hcC_one _) (by unfold maxLen; omega) (by omega) (by simp) ?_; intro v3 w3 o3 g3 _
               have BW3 := Lib.hid ((ext_alloc w (.cells #[] 63)).grown g3 (by simp) (fun k hk => by simp [Value.ownBlock] at hk; omega))
               have o3' : w3.ownsRow w.heap.size 63 2 v3 p (hcC (L.take p)) := by simpa using o3
               obtain ⟨va3, vc3, rfl⟩ := own_slice o3'
               have oB := Lib.hid (own_keep o3' (ext_alloc w3 (.cells #[.string k, .bool false] 63)))
               have z3 : w.heap.size ≤ w3.heap.size := BW3.out.size
               have nB : Hid (∀ j u, ([Value.string k, .bool false] : List Value)[j]? = some u → (w3.alloc (.cells #[.string k, .bool false] 63)).cell? ((⟨w3.heap.size, 0, none⟩ : Addr).add j) = some u) := Lib.hid (by
                 intro j u hj
                 have := cell_of_row (w3.alloc (.cells #[.string k, .bool false] 63)) w3.heap.size j _ 63 (0, 0) (heap_alloc_new w3 _)
                 rw [add_off2, Nat.zero_add, this, ← hj]
                 simp)
               clear o3 o3' g3)
            | (at_builtin; refine wpList_append_own _ rfl (.tmp 80) (.tmp 85) 57 rfl w.heap.size 63 i63 zH 2 24 Try.underlying57 hi63 hz0 hz1 hz2 rfl (by decide) (.slice va3 p vc3) p (hcC (L.take p)) rfl oB.out ⟨w3.heap.size, 0, none⟩ 1 1 [.string k, .bool false] rfl rfl nB.out one2.out (by unfold maxLen; omega) (by omega) (by simp; omega) ?_; intro v4 w4 o4 g4 _
               have BW4 := Lib.hid ((BW3.out.alloc BW3.out.size (.cells #[.string k, .bool false] 63)).grown g4 (by have := BW3.out.size; simp; omega) (fun k hk => (oB.out.lt k hk).1))
               obtain ⟨va4, vc4, rfl⟩ := own_slice o4
               have d4 := (BW4.out.cell (p := ⟨x, 0, none⟩) xlt).trans c0
               have n4 := Lib.hid (nC.out w4 (own_keep H.out.its BW4.out))
               have o4' := Lib.hid o4
               have z4 : w.heap.size ≤ w4.heap.size := BW4.out.size
               clear o4 g4)
            | (at_builtin; refine wpList_append_own _ rfl (.tmp 87) (.tmp 93) 57 rfl w.heap.size 63 i63 zH 2 24 Try.underlying57 hi63 hz0 hz1 hz2 rfl (by decide) (.slice va4 (p + 1) vc4) (p + 1) (hcC (L.take p) ++ [.string k, .bool false]) rfl o4'.out _ 0 _ [] rfl rfl (by intro j u hj; simp at hj) (by intro u hu; simp at hu) (by unfold maxLen; omega) (by omega) (by omega) ?_; intro v5 w5 o5 g5 _
               have BW5 := Lib.hid (BW4.out.grown g5 (by have := BW4.out.size; omega) (fun k hk => (o4'.out.lt k hk).1))
               obtain ⟨va5, vc5, rfl⟩ := own_slice o5
               have d5 := (BW5.out.cell (p := ⟨x, 0, none⟩) xlt).trans c0
               have f5 := (BW5.out.frozen (p := ⟨x, 0, none⟩) xlt).trans f1
               have o5' := Lib.hid o5
               clear o5 g5))
          go_ret
          exact ⟨rfl, _, FIN.out w5 _ BW5.out (by
            rw [hins.out, List.drop_eq_nil_of_le hcb, List.append_nil]
            rw [show (L.take p ++ [((k, false) : Host)]).length = p + 1 + 0 by simp; omega, hcC_append]
            have := o5'.out
            rw [List.append_nil] at this
            exact this)⟩
end
end Go.Proofs.Ytdljddghbkcddaa.Hst

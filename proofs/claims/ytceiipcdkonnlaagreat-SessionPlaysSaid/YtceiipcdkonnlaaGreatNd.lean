/-
  LAYER 23: the document's gone, Ack, Comp.
-/
import Derived.Test.YtceiipcdkonnlaaGreatNb
import Derived.Test.YtceiipcdkonnlaaGreatFk
namespace Go.Proofs.YtceiipcdkonnlaaGreat.Fli
set_option linter.unusedSimpArgs false
set_option linter.unusedVariables false
open Go.RowKit Que Hp Ids
section
variable {w w' : World} {x : Nat} {L : List Se} {v : Value} {B : Nat}
theorem seC_append (l m : List Se) : seC (l ++ m) = seC l ++ seC m := by simp [seC]
theorem seC_one (l : List Se) : ∀ u ∈ seC l, u.oneCell' = true := by
  intro u hu
  unfold seC at hu
  obtain ⟨f, -, hf⟩ := List.mem_flatMap.1 hu
  simp only [Se.cells, List.mem_cons, List.not_mem_nil, or_false] at hf
  rcases hf with rfl | rfl | rfl | rfl | rfl | rfl <;> rfl
theorem own_cap' {e size n g c : Nat} {xs : List Value} (h : w.ownsRow B e size (.slice (some ⟨g, 0, none⟩) n c) n xs) : n ≤ c ∧ c ≤ maxLen := by
  rcases h.2 with ⟨h, -⟩ | ⟨g', cap, cur, hv, _, _, h1, h2, _⟩
  · cases h
  · simp only [Value.slice.injEq] at hv
    obtain ⟨-, -, rfl⟩ := hv
    exact ⟨h1, h2⟩
theorem xl_end {W : World} {v' : Value} {L' : List Se} (h : Xf B w x v L) (hb : Below w.heap.size w W) (hB : B ≤ w.heap.size) (o : W.ownsRow w.heap.size 89 6 v' L'.length (seC L')) : XN B w (W.setCell ⟨x, 0, none⟩ v') x v L' v' := by
  have R1 := (hb.block x h.lt).trans h.row
  have GG : W.grownBy (W.setCell ⟨x, 0, none⟩ v') (some x) := set_grownX
  refine ⟨⟨by simpa using setXf R1 (j := 0) v', own_base (own_grown o R1 (by decide) GG) hB⟩, ?_, fun k hk => .inr (o.lt k hk).1⟩
  exact (Far.of_ext hb).trans (Far.of_grown (S := fun k => k = x ∨ v.ownBlock = some k) GG (fun k _ e => .inl (by simpa using e.symm))) (fun k _ h => h)
def goneL (L : List Se) (id s : Int) : Bool × List Se := match L[ixS L id]? with
  | some e => if e.s = s then (true, L.take (ixS L id) ++ L.drop (ixS L id + 1)) else (false, L)
  | none => (false, L)
set_option maxHeartbeats 8000000 in
set_option maxRecDepth 100000 in
theorem gone_any (h : Xf B w x v L) (hB : B ≤ w.heap.size) (hL : L.length ≤ 8) (id s : Int) : Calls Tryz.prog 73 #[.pointer (some ⟨x, 0, none⟩), .int .i64 id, .int .i64 s] w fun e w' => e = .returned (.bool (goneL L id s).1) ∧ ∃ v', XN B w w' x v (goneL L id s).2 v' := by
  obtain ⟨i70, hi70, hz0, hz1, hz2⟩ := info_parts info70
  have F := Lib.hid (xfind_any h hL id)
  have hL' : (L.length : Int) ≤ 8 := by omega
  unfold goneL
  cases he : L[ixS L id]? with
  | none =>
    have hf : fiS L id = -1 := by unfold fiS; rw [if_neg (by rw [List.getElem?_eq_none_iff] at he; omega)]
    rw [hf] at F
    have Z := Lib.hid (xn_same h)
    clear h he hf
    go_enter Tryz.func73, Tryz.ntmps73
    go_wp2_with fail
    refine F.out.mono ?_
    rintro e w1 ⟨rfl, rfl⟩
    go_wp2
    go_ret
    exact ⟨rfl, v, Z.out⟩
  | some e =>
    have hlt := (List.getElem?_eq_some_iff.1 he).1
    have hf : fiS L id = (ixS L id : Int) := by unfold fiS; rw [if_pos hlt]
    rw [hf] at F
    obtain ⟨gb, cb, hv⟩ := own_slice' h.its (by omega)
    obtain ⟨hcb, hcm⟩ := own_cap' (hv ▸ h.its)
    have c0 := h.c0
    have f1 := h.fz 0
    have xlt := h.lt
    rw [hv] at c0
    have q1 : w.cell? ⟨gb, ixS L id * 6 + 1, none⟩ = some (.int .i64 e.s) := h.at hv he (j := 1) (by omega)
    have hlt' : (ixS L id : Int) < (L.length : Int) := by omega
    by_cases hs : e.s = s
    · have hsb : (e.s == s) = true := by simpa using hs
      simp only [hs, if_true] at *
      have hcb' : (L.length : Int) ≤ (cb : Int) := by omega
      have hcm' : (cb : Int) ≤ 9223372036854775807 := by unfold maxLen at hcm; omega
      have H := Lib.hid h
      have HV := Lib.hid hv
      have oA := Lib.hid (show (w.alloc (.cells #[] 89)).ownsRow w.heap.size 89 6 (.slice (some ⟨w.heap.size, 0, none⟩) 0 0) 0 [] from ⟨rfl, .inr ⟨_, 0, #[], rfl, Nat.le_refl _, heap_alloc_new w _, Nat.le_refl _, Nat.zero_le _, rfl, rfl⟩⟩)
      generalize ixS L id = p at *
      have p0 : ¬ (p : Int) < 0 := by omega
      have nA : Hid (∀ W : World, Below w.heap.size w W → ∀ j u, (seC (L.take p))[j]? = some u → W.cell? ((⟨gb, 0, none⟩ : Addr).add j) = some u) := Lib.hid fun W hW j u hj => by
        have o := own_keep H.out.its hW
        rw [HV.out] at o
        rw [add_off', Nat.zero_add]
        refine own_get o ?_
        have hjl := (List.getElem?_eq_some_iff.1 hj).1
        have e : seC L = seC (L.take p) ++ seC (L.drop p) := by rw [← seC_append, List.take_append_drop]
        rw [e, List.getElem?_append_left hjl]; exact hj
      have nC : Hid (∀ W : World, W.ownsRow B 89 6 v L.length (seC L) → ∀ j u, (seC (L.drop (p + 1)))[j]? = some u → W.cell? ((⟨gb, (p + 1) * 6, none⟩ : Addr).add j) = some u) := Lib.hid fun W o j u hj => by
        rw [HV.out] at o
        rw [add_off']
        refine own_get o ?_
        have e : seC L = seC (L.take (p + 1)) ++ seC (L.drop (p + 1)) := by rw [← seC_append, List.take_append_drop]
        have hl : (seC (L.take (p + 1))).length = (p + 1) * 6 := by rw [seC_len, List.length_take]; omega
        rw [e, List.getElem?_append_right (by omega), hl, Nat.add_sub_cancel_left]; exact hj
      have ltA : (seC (L.take p)).length = p * 6 := by rw [seC_len, List.length_take]; omega
      have ltC : (seC (L.drop (p + 1))).length = (L.length - (p + 1)) * 6 := by rw [seC_len, List.length_drop]
      have lenZ : (L.take p ++ L.drop (p + 1)).length = p + (L.length - (p + 1)) := by simp; omega
      replace ltA := Lib.hid ltA
      replace ltC := Lib.hid ltC
      replace lenZ := Lib.hid lenZ
      have FIN : Hid (∀ (W : World) v', Below w.heap.size w W → W.ownsRow w.heap.size 89 6 v' (L.take p ++ L.drop (p + 1)).length (seC (L.take p ++ L.drop (p + 1))) → XN B w (W.setCell ⟨x, 0, none⟩ v') x v (L.take p ++ L.drop (p + 1)) v') := Lib.hid fun W v' hW o => xl_end H.out hW hB o
      clear h hv he hf
      rcases Nat.lt_or_eq_of_le (show p + 1 ≤ cb by omega) with hcp | hcp
      · have hcp' : (p : Int) + 1 < (cb : Int) := by omega
        have hcp2 : ¬ cb = p + 1 := by omega
        go_enter Tryz.func73, Tryz.ntmps73
        go_wp2_with fail
        refine F.out.mono ?_
        rintro e w1 ⟨rfl, rfl⟩
        go_wp2_with (first
          | (at_builtin; refine wpList_append_own _ rfl (.tmp 26) (.tmp 32) 55 rfl w.heap.size 89 i70 zS 6 64 Tryz.underlying55 hi70 hz0 hz1 hz2 rfl (by decide) (.slice (some ⟨w.heap.size, 0, none⟩) 0 0) 0 [] rfl oA.out ⟨gb, 0, none⟩ p cb (seC (L.take p)) rfl ltA.out (nA.out _ (ext_alloc w _)) (seC_one _) (by unfold maxLen; omega) (by omega) (by simp) ?_; intro v3 w3 o3 g3 _
             have BW3 := Lib.hid ((ext_alloc w (.cells #[] 89)).grown g3 (by simp) (fun k hk => by simp [Value.ownBlock] at hk; omega))
             have o3' : w3.ownsRow w.heap.size 89 6 v3 p (seC (L.take p)) := by simpa using o3
             obtain ⟨va3, vc3, rfl⟩ := own_slice o3'
             have d3 := (BW3.out.cell (p := ⟨x, 0, none⟩) xlt).trans c0
             have n3 := Lib.hid (nC.out w3 (own_keep H.out.its BW3.out))
             have o3 := Lib.hid o3'
             have z3 : w.heap.size ≤ w3.heap.size := BW3.out.size
             clear o3' g3)
          | (at_builtin; refine wpList_append_own _ rfl (.tmp 34) (.tmp 41) 55 rfl w.heap.size 89 i70 zS 6 64 Tryz.underlying55 hi70 hz0 hz1 hz2 rfl (by decide) (.slice va3 p vc3) p (seC (L.take p)) rfl o3.out ⟨gb, (p + 1) * 6, none⟩ (L.length - (p + 1)) (cb - (p + 1)) (seC (L.drop (p + 1))) rfl ltC.out n3.out (seC_one _) (by unfold maxLen; omega) (by omega) (by omega) ?_; intro v5 w5 o5 g5 _
             have BW5 := Lib.hid (BW3.out.grown g5 (by have := BW3.out.size; omega) (fun k hk => (o3.out.lt k hk).1))
             obtain ⟨va5, vc5, rfl⟩ := own_slice o5
             have d5 := (BW5.out.cell (p := ⟨x, 0, none⟩) xlt).trans c0
             have f5 := (BW5.out.frozen (p := ⟨x, 0, none⟩) xlt).trans f1
             have o5' := Lib.hid o5
             clear o5 g5))
        go_ret
        exact ⟨rfl, _, FIN.out w5 _ BW5.out (by
          rw [lenZ.out, seC_append]; exact o5'.out)⟩
      · obtain ⟨r, rfl⟩ : ∃ r, p = r := ⟨p, rfl⟩
        have hcp2 : cb = p + 1 := hcp.symm
        clear hcp hcb' hcm'
        go_enter Tryz.func73, Tryz.ntmps73
        go_wp2_with fail
        refine F.out.mono ?_
        rintro e w1 ⟨rfl, rfl⟩
        go_wp2_with (first
          | (at_builtin; refine wpList_append_own _ rfl (.tmp 26) (.tmp 32) 55 rfl w.heap.size 89 i70 zS 6 64 Tryz.underlying55 hi70 hz0 hz1 hz2 rfl (by decide) (.slice (some ⟨w.heap.size, 0, none⟩) 0 0) 0 [] rfl oA.out ⟨gb, 0, none⟩ p (p + 1) (seC (L.take p)) rfl ltA.out (nA.out _ (ext_alloc w _)) (seC_one _) (by unfold maxLen; omega) (by omega) (by simp) ?_; intro v3 w3 o3 g3 _
             have BW3 := Lib.hid ((ext_alloc w (.cells #[] 89)).grown g3 (by simp) (fun k hk => by simp [Value.ownBlock] at hk; omega))
             have o3' : w3.ownsRow w.heap.size 89 6 v3 p (seC (L.take p)) := by simpa using o3
             obtain ⟨va3, vc3, rfl⟩ := own_slice o3'
             have d3 := (BW3.out.cell (p := ⟨x, 0, none⟩) xlt).trans c0
             have n3 := Lib.hid (nC.out w3 (own_keep H.out.its BW3.out))
             have o3 := Lib.hid o3'
             have z3 : w.heap.size ≤ w3.heap.size := BW3.out.size
             clear o3' g3)
          | (at_builtin; refine wpList_append_own _ rfl (.tmp 34) (.tmp 41) 55 rfl w.heap.size 89 i70 zS 6 64 Tryz.underlying55 hi70 hz0 hz1 hz2 rfl (by decide) (.slice va3 p vc3) p (seC (L.take p)) rfl o3.out _ (L.length - (p + 1)) _ [] rfl (by simp; omega) (by intro j u hj; simp at hj) (by intro u hu; simp at hu) (by unfold maxLen; omega) (by omega) (by omega) ?_; intro v5 w5 o5 g5 _
             have BW5 := Lib.hid (BW3.out.grown g5 (by have := BW3.out.size; omega) (fun k hk => (o3.out.lt k hk).1))
             obtain ⟨va5, vc5, rfl⟩ := own_slice o5
             have d5 := (BW5.out.cell (p := ⟨x, 0, none⟩) xlt).trans c0
             have f5 := (BW5.out.frozen (p := ⟨x, 0, none⟩) xlt).trans f1
             have o5' := Lib.hid o5
             clear o5 g5))
        go_ret
        exact ⟨rfl, _, FIN.out w5 _ BW5.out (by
          rw [lenZ.out, seC_append, List.drop_eq_nil_of_le (by omega)]
          exact o5'.out)⟩
    · have hsb : (e.s != s) = true := by simpa using hs
      simp only [hs, if_false]
      have Z := Lib.hid (xn_same h)
      generalize ixS L id = p at *
      have p0 : ¬ (p : Int) < 0 := by omega
      clear h he hf hv
      go_enter Tryz.func73, Tryz.ntmps73
      go_wp2_with fail
      refine F.out.mono ?_
      rintro e w1 ⟨rfl, rfl⟩
      go_wp2
      go_ret
      exact ⟨rfl, v, Z.out⟩
set_option maxRecDepth 100000 in
theorem xack_any (h : Xf B w x v L) (hB : B ≤ w.heap.size) (hL : L.length ≤ 8) (id : Int) : Calls Tryz.prog 50 #[.pointer (some ⟨x, 0, none⟩), .int .i64 id] w fun e w' => e = .returned (.bool (goneL L id 1).1) ∧ ∃ v', XN B w w' x v (goneL L id 1).2 v' := by
  have G := Lib.hid (gone_any h hB hL id 1)
  clear h
  go_enter Tryz.func50, Tryz.ntmps50
  go_wp2_with fail
  refine G.out.mono ?_
  rintro e w1 ⟨rfl, z⟩
  replace z := Lib.hid z
  go_wp2
  go_ret
  exact ⟨rfl, z.out⟩
set_option maxRecDepth 100000 in
theorem xcomp_any (h : Xf B w x v L) (hB : B ≤ w.heap.size) (hL : L.length ≤ 8) (id : Int) : Calls Tryz.prog 51 #[.pointer (some ⟨x, 0, none⟩), .int .i64 id] w fun e w' => e = .returned (.bool (goneL L id 3).1) ∧ ∃ v', XN B w w' x v (goneL L id 3).2 v' := by
  have G := Lib.hid (gone_any h hB hL id 3)
  clear h
  go_enter Tryz.func51, Tryz.ntmps51
  go_wp2_with fail
  refine G.out.mono ?_
  rintro e w1 ⟨rfl, z⟩
  replace z := Lib.hid z
  go_wp2
  go_ret
  exact ⟨rfl, z.out⟩
end
end Go.Proofs.YtceiipcdkonnlaaGreat.Fli

/-
  LAYER 23: the document's Again.
-/
namespace Go.Proofs.YtceiipcdkonnlaaGreat.Fli
set_option linter.unusedSimpArgs false
set_option linter.unusedVariables false
open Go.RowKit Que Hp Ids
section
variable {w w' : World} {x : Nat} {L : List Se} {v : Value} {B : Nat}
set_option maxHeartbeats 8000000 in
set_option maxRecDepth 100000 in
theorem xagain_any (h : Xf B w x v L) (hL : L.length ≤ 8) : Calls Tryz.prog 44 #[.pointer (some ⟨x, 0, none⟩)] w (AgF L w) := by
  obtain ⟨i3, hi3, hz0, hz1, hz2⟩ := info_parts info78
  have c1 := h.c0
  have flt := h.lt
  obtain ⟨a, c, rfl⟩ := own_slice h.its
  have hL' : (L.length : Int) ≤ 8 := by omega
  replace h := Lib.hid h
  go_enter Tryz.func44, Tryz.ntmps44
  go_wp2_with fail
  go_loopw [3, 4] (fun v iv wr => ∃ k : Nat, iv = .int .i64 (k : Int) ∧ k ≤ L.length ∧ wr.ownsRow w.heap.size 72 24 v (L.take k).length (pkC (L.take k)) ∧ Below w.heap.size w wr) (fun _ iv _ => L.length - (intOf iv).toNat)
  case atStart => exact ⟨0, rfl, by omega, World.ownsRow_nil _ _ _ _, Below.refl _ _⟩
  case round =>
    obtain ⟨k, rfl, hk, o, hb⟩ := hrel
    have HB := Lib.hid hb
    have hll : (L.take k).length ≤ 8 := by rw [List.length_take]; omega
    obtain ⟨M, hM⟩ : ∃ M, M = L.take k := ⟨_, rfl⟩
    rw [← hM] at o hll
    obtain ⟨va, vc, rfl⟩ := own_slice o
    have c2 := (hb.cell (p := ⟨x, 0, none⟩) flt).trans c1
    by_cases hlt : k < L.length
    · have hlt' : (k : Int) < (L.length : Int) := by omega
      obtain ⟨e, he⟩ : ∃ e, L[k]? = some e := ⟨_, List.getElem?_eq_getElem hlt⟩
      obtain ⟨gb, cb, hv⟩ := own_slice' h.out.its (by omega)
      have hk2 := h.out.keep hb
      have q0 : wr.cell? ⟨gb, k * 6, none⟩ = some (.int .i64 e.i) := hk2.at hv he (j := 0) (by omega)
      have q1 : wr.cell? ⟨gb, k * 6 + 1, none⟩ = some (.int .i64 e.s) := hk2.at hv he (j := 1) (by omega)
      have q2 : wr.cell? ⟨gb, k * 6 + 2, none⟩ = some (.string e.t) := hk2.at hv he (j := 2) (by omega)
      have q3 : wr.cell? ⟨gb, k * 6 + 3, none⟩ = some (.string e.x) := hk2.at hv he (j := 3) (by omega)
      have q4 : wr.cell? ⟨gb, k * 6 + 4, none⟩ = some (.int .i64 e.q) := hk2.at hv he (j := 4) (by omega)
      have q5 : wr.cell? ⟨gb, k * 6 + 5, none⟩ = some (.bool e.r) := hk2.at hv he (j := 5) (by omega)
      simp only [Value.slice.injEq] at hv
      obtain ⟨rfl, -, rfl⟩ := hv
      have sz := hb.size
      have E : L.take (k + 1) = M ++ [e] := by
        obtain ⟨h1, h2⟩ := List.getElem?_eq_some_iff.1 he
        rw [List.take_succ_eq_append_getElem h1, h2, hM]
      by_cases hs : e.s = 3
      · have hp : pk e = [.int .i64 6, .int .i64 e.i, .bool false, .string { data := #[] }, .string { data := #[] }, .int .i64 0, .bool false, .int .i64 0, .bool false, .int .i64 0, .string { data := #[] }, .bool false, .string { data := #[] }, .string { data := #[] }, .int .i64 0, .bool false, .bool false, .string { data := #[] }, .bool false, .string { data := #[] }, .bool false, .int .i64 0, .slice none 0 0, .slice none 0 0] := if_pos hs
        have hsb : (e.s == 3) = true := by simpa using hs
        have oA := Lib.hid (own_keep o (ext_alloc wr (.cells #[.int .i64 6, .int .i64 e.i, .bool false, .string { data := #[] }, .string { data := #[] }, .int .i64 0, .bool false, .int .i64 0, .bool false, .int .i64 0, .string { data := #[] }, .bool false, .string { data := #[] }, .string { data := #[] }, .int .i64 0, .bool false, .bool false, .string { data := #[] }, .bool false, .string { data := #[] }, .bool false, .int .i64 0, .slice none 0 0, .slice none 0 0] 72)))
        have hnew : Hid (∀ j u, ([.int .i64 6, .int .i64 e.i, .bool false, .string { data := #[] }, .string { data := #[] }, .int .i64 0, .bool false, .int .i64 0, .bool false, .int .i64 0, .string { data := #[] }, .bool false, .string { data := #[] }, .string { data := #[] }, .int .i64 0, .bool false, .bool false, .string { data := #[] }, .bool false, .string { data := #[] }, .bool false, .int .i64 0, .slice none 0 0, .slice none 0 0] : List Value)[j]? = some u → (wr.alloc (.cells #[.int .i64 6, .int .i64 e.i, .bool false, .string { data := #[] }, .string { data := #[] }, .int .i64 0, .bool false, .int .i64 0, .bool false, .int .i64 0, .string { data := #[] }, .bool false, .string { data := #[] }, .string { data := #[] }, .int .i64 0, .bool false, .bool false, .string { data := #[] }, .bool false, .string { data := #[] }, .bool false, .int .i64 0, .slice none 0 0, .slice none 0 0] 72)).cell? ((⟨wr.heap.size, 0, none⟩ : Addr).add j) = some u) := Lib.hid (by
          intro j u hj
          have := cell_of_row (wr.alloc (.cells #[.int .i64 6, .int .i64 e.i, .bool false, .string { data := #[] }, .string { data := #[] }, .int .i64 0, .bool false, .int .i64 0, .bool false, .int .i64 0, .string { data := #[] }, .bool false, .string { data := #[] }, .string { data := #[] }, .int .i64 0, .bool false, .bool false, .string { data := #[] }, .bool false, .string { data := #[] }, .bool false, .int .i64 0, .slice none 0 0, .slice none 0 0] 72)) wr.heap.size j _ 72 (0, 0) (heap_alloc_new wr _)
          rw [add_off', Nat.zero_add, this, ← hj]
          exact List.getElem?_toArray)
        have hpo : Hid (∀ u ∈ ([.int .i64 6, .int .i64 e.i, .bool false, .string { data := #[] }, .string { data := #[] }, .int .i64 0, .bool false, .int .i64 0, .bool false, .int .i64 0, .string { data := #[] }, .bool false, .string { data := #[] }, .string { data := #[] }, .int .i64 0, .bool false, .bool false, .string { data := #[] }, .bool false, .string { data := #[] }, .bool false, .int .i64 0, .slice none 0 0, .slice none 0 0] : List Value), u.oneCell' = true) := Lib.hid (by rw [← hp]; exact pk_one e)
        replace hp := Lib.hid hp
        replace hs := Lib.hid hs
        replace E := Lib.hid E
        replace hM := Lib.hid hM
        clear hb he hk2 o
        go_wp2_with (first
          | (at_builtin; go_loud (refine wpList_append_own _ rfl (.tmp 23) (.tmp 33) 64 rfl w.heap.size 72 i3 zP 24 280 Tryz.underlying64 hi3 hz0 hz1 hz2 rfl (by decide) (.slice va M.length vc) M.length (pkC M) rfl oA.out ⟨wr.heap.size, 0, none⟩ 1 1 [.int .i64 6, .int .i64 e.i, .bool false, .string { data := #[] }, .string { data := #[] }, .int .i64 0, .bool false, .int .i64 0, .bool false, .int .i64 0, .string { data := #[] }, .bool false, .string { data := #[] }, .string { data := #[] }, .int .i64 0, .bool false, .bool false, .string { data := #[] }, .bool false, .string { data := #[] }, .bool false, .int .i64 0, .slice none 0 0, .slice none 0 0] rfl rfl hnew.out hpo.out (by unfold maxLen; omega) (by omega) (by simp; omega) ?_); intro v3 w3 o3 g3 _))
        go_roundw
        case rel => exact ⟨k + 1, by simp, by omega, by rw [E.out, pkC_snoc, hp.out]; simpa using o3, (HB.out.alloc sz _).grown g3 (by simp; omega) (fun j hj => (oA.out.lt j hj).1)⟩
        case measure => simp [intOf]; omega
      · have hp : pk e = [.int .i64 3, .int .i64 e.i, .bool true, .string e.t, .string e.x, .int .i64 e.q, .bool e.r, .int .i64 0, .bool false, .int .i64 0, .string { data := #[] }, .bool false, .string { data := #[] }, .string { data := #[] }, .int .i64 0, .bool false, .bool false, .string { data := #[] }, .bool false, .string { data := #[] }, .bool false, .int .i64 0, .slice none 0 0, .slice none 0 0] := if_neg hs
        have hsb : (e.s == 3) = false := by simpa using hs
        have KB : Hid (∀ W : World, Below wr.heap.size wr W → W.ownsRow w.heap.size 72 24 (.slice va M.length vc) M.length (pkC M)) := Lib.hid fun W hW => own_keep o hW
        have KN : Hid (∀ W : World, W.heap[wr.heap.size]? = some (.cells #[.int .i64 3, .int .i64 e.i, .bool true, .string e.t, .string e.x, .int .i64 e.q, .bool e.r, .int .i64 0, .bool false, .int .i64 0, .string { data := #[] }, .bool false, .string { data := #[] }, .string { data := #[] }, .int .i64 0, .bool false, .bool false, .string { data := #[] }, .bool false, .string { data := #[] }, .bool false, .int .i64 0, .slice none 0 0, .slice none 0 0] 72 (0, 0)) → ∀ j u, ([.int .i64 3, .int .i64 e.i, .bool true, .string e.t, .string e.x, .int .i64 e.q, .bool e.r, .int .i64 0, .bool false, .int .i64 0, .string { data := #[] }, .bool false, .string { data := #[] }, .string { data := #[] }, .int .i64 0, .bool false, .bool false, .string { data := #[] }, .bool false, .string { data := #[] }, .bool false, .int .i64 0, .slice none 0 0, .slice none 0 0] : List Value)[j]? = some u → W.cell? ((⟨wr.heap.size, 0, none⟩ : Addr).add j) = some u) := Lib.hid (by
          intro W hW j u hj
          have := cell_of_row W wr.heap.size j _ 72 (0, 0) hW
          rw [add_off', Nat.zero_add, this, ← hj]
          exact List.getElem?_toArray)
        have hpo : Hid (∀ u ∈ ([.int .i64 3, .int .i64 e.i, .bool true, .string e.t, .string e.x, .int .i64 e.q, .bool e.r, .int .i64 0, .bool false, .int .i64 0, .string { data := #[] }, .bool false, .string { data := #[] }, .string { data := #[] }, .int .i64 0, .bool false, .bool false, .string { data := #[] }, .bool false, .string { data := #[] }, .bool false, .int .i64 0, .slice none 0 0, .slice none 0 0] : List Value), u.oneCell' = true) := Lib.hid (by rw [← hp]; exact pk_one e)
        have hlts : Hid (∀ j, (Value.slice va M.length vc).ownBlock = some j → w.heap.size ≤ j) := Lib.hid fun j hj => (o.lt j hj).1
        replace hp := Lib.hid hp
        replace hs := Lib.hid hs
        replace E := Lib.hid E
        replace hM := Lib.hid hM
        clear hb he hk2 o
        go_wp2_with fail
        go_region_law (go_must (refine step_append_lies _ rfl (.tmp 35) (.tmp 53) 64 rfl w.heap.size 72 i3 zP 24 280 Tryz.underlying64 hi3 hz0 hz1 hz2 rfl (by decide) (.slice va M.length vc) M.length (pkC M) rfl (KB.out _ (by first | exact ext_alloc wr _ | exact ext_trans (ext_alloc wr _) (ext_drew _) | exact ext_trans (ext_drew wr) (ext_alloc wr.drew _))) ⟨wr.heap.size, 0, none⟩ 1 1 [.int .i64 3, .int .i64 e.i, .bool true, .string e.t, .string e.x, .int .i64 e.q, .bool e.r, .int .i64 0, .bool false, .int .i64 0, .string { data := #[] }, .bool false, .string { data := #[] }, .string { data := #[] }, .int .i64 0, .bool false, .bool false, .string { data := #[] }, .bool false, .string { data := #[] }, .bool false, .int .i64 0, .slice none 0 0, .slice none 0 0] rfl rfl (KN.out _ (by first | exact heap_alloc_new wr _ | exact heap_alloc_new wr.drew _)) hpo.out (by decide) (by unfold maxLen; omega) (by omega) (by simp; omega) (wr.heap.size + 1) (by simp) ?_); intro gg cap w3 hown1 hgrow hat hlt1)
        all_goals go_wp2_with fail
        all_goals go_roundw
        all_goals first
          | (case rel => exact ⟨k + 1, by simp, by omega, by rw [E.out, pkC_snoc, hp.out]; simpa using hown1, (by first | exact HB.out.drew.alloc sz _ | exact (HB.out.alloc sz _).drew | exact HB.out.alloc sz _ : Below w.heap.size w _).grown hgrow (by simp; omega) (fun j hj => hlts.out j hj)⟩)
          | (case measure => simp [intOf]; omega)
    · obtain rfl : k = L.length := by omega
      rw [List.take_length] at hM
      subst hM
      have o' := Lib.hid o
      clear hb hk o
      go_wp2_with fail
      go_ret
      exact ⟨_, rfl, o'.out, HB.out⟩
end
end Go.Proofs.YtceiipcdkonnlaaGreat.Fli

/-
  LAYER 23: the document's gone, Ack, Comp.
-/
import Derived.Test.YtcjoemejoeekiaaNb
namespace Go.Proofs.Ytcjoemejoeekiaa.Fli
open Go.RowKit Que Hp Ids
section
variable {w w' : World} {x : Nat} {L : List Se} {v : Value} {B : Nat}
theorem seC_append (l m : List Se) : seC (l ++ m) = seC l ++ seC m := by simp [seC]
theorem seC_one (l : List Se) : ∀ u ∈ seC l, u.oneCell' = true := by
  intro u hu
  unfold seC at hu
  obtain ⟨f, -, hf⟩ := List.mem_flatMap.1 hu
  simp only [Se.cells, List.mem_cons, List.not_mem_nil, or_false] at hf
  rcases hf with rfl | rfl | rfl | rfl | rfl | rfl <;> rfl
theorem own_cap' {e size n g c : Nat} {xs : List Value} (h : w.ownsRow B e size (.slice (some ⟨g, 0, none⟩) n c) n xs) : n ≤ c ∧ c ≤ maxLen := by
  rcases h.2 with ⟨h, -⟩ | ⟨g', cap, cur, hv, _, _, h1, h2, _⟩
  · cases h
  · simp only [Value.slice.injEq] at hv
    obtain ⟨-, -, rfl⟩ := hv
    exact ⟨h1, h2⟩
theorem xl_end {W : World} {v' : Value} {L' : List Se} (h : Xf B w x v L) (hb : Below w.heap.size w W) (hB : B ≤ w.heap.size) (o : W.ownsRow w.heap.size 70 6 v' L'.length (seC L')) : XN B w (W.setCell ⟨x, 0, none⟩ v') x v L' v' := by
  have R1 := (hb.block x h.lt).trans h.row
  have GG : W.grownBy (W.setCell ⟨x, 0, none⟩ v') (some x) := set_grownX
  refine ⟨⟨by simpa using setXf R1 (j := 0) v', own_base (own_grown o R1 (by decide) GG) hB⟩, ?_, fun k hk => .inr (o.lt k hk).1⟩
  exact (Far.of_ext hb).trans (Far.of_grown (S := fun k => k = x ∨ v.ownBlock = some k) GG (fun k _ e => .inl (by simpa using e.symm))) (fun k _ h => h)
def goneL (L : List Se) (id s : Int) : Bool × List Se := match L[ixS L id]? with
  | some e => if e.s = s then (true, L.take (ixS L id) ++ L.drop (ixS L id + 1)) else (false, L)
  | none => (false, L)
set_option maxHeartbeats 8000000 in
set_option maxRecDepth 100000 in
theorem gone_any (h : Xf B w x v L) (hB : B ≤ w.heap.size) (hL : L.length ≤ 8) (id s : Int) : Calls Try.prog 63 #[.pointer (some ⟨x, 0, none⟩), .int .i64 id, .int .i64 s] w fun e w' => e = .returned (.bool (goneL L id s).1) ∧ ∃ v', XN B w w' x v (goneL L id s).2 v' := by
  obtain ⟨i70, hi70, hz0, hz1, hz2⟩ := info_parts info70
  have F := Lib.hid (xfind_any h hL id)
  have hL' : (L.length : Int) ≤ 8 := by omega
  unfold goneL
  cases he : L[ixS L id]? with
  | none =>
    have hf : fiS L id = -1 := by unfold fiS; rw [if_neg (by rw [List.getElem?_eq_none_iff] at he; omega)]
    rw [hf] at F
    have Z := Lib.hid (xn_same h)
    clear h he hf
    go_enter Try.func63, Try.ntmps63
    go_wp2_with fail
    refine F.out.mono ?_
    rintro e w1 ⟨rfl, rfl⟩
    go_wp2
    go_ret
    exact ⟨rfl, v, Z.out⟩
  | some e =>
    have hlt := (List.getElem?_eq_some_iff.1 he).1
    have hf : fiS L id = (ixS L id : Int) := by unfold fiS; rw [if_pos hlt]
    rw [hf] at F
    obtain ⟨gb, cb, hv⟩ := own_slice' h.its (by omega)
    obtain ⟨hcb, hcm⟩ := own_cap' (hv ▸ h.its)
    have c0 := h.c0
    have f1 := h.fz 0
    have xlt := h.lt
    rw [hv] at c0
    have q1 : w.cell? ⟨gb, ixS L id * 6 + 1, none⟩ = some (.int .i64 e.s) := h.at hv he (j := 1) (by omega)
    have hlt' : (ixS L id : Int) < (L.length : Int) := by omega
    by_cases hs : e.s = s
    · have hsb : (e.s == s) = true := by simpa using hs
      simp only [hs, if_true] at *
      have hcb' : (L.length : Int) ≤ (cb : Int) := by omega
      have hcm' : (cb : Int) ≤ 9223372036854775807 := by unfold maxLen at hcm; omega
      have H := Lib.hid h
      have HV := Lib.hid hv
      have oA := Lib.hid (show (w.alloc (.cells #[] 70)).ownsRow w.heap.size 70 6 (.slice (some ⟨w.heap.size, 0, none⟩) 0 0) 0 [] from ⟨rfl, .inr ⟨_, 0, #[], rfl, Nat.le_refl _, heap_alloc_new w _, Nat.le_refl _, Nat.zero_le _, rfl, rfl⟩⟩)
      generalize ixS L id = p at *
      have p0 : ¬ (p : Int) < 0 := by omega
      have nA : Hid (∀ W : World, Below w.heap.size w W → ∀ j u, (seC (L.take p))[j]? = some u → W.cell? ((⟨gb, 0, none⟩ : Addr).add j) = some u) := Lib.hid fun W hW j u hj => by
        have o := own_keep H.out.its hW
        rw [HV.out] at o
        rw [add_off', Nat.zero_add]
        refine own_get o ?_
        have hjl := (List.getElem?_eq_some_iff.1 hj).1
        have e : seC L = seC (L.take p) ++ seC (L.drop p) := by rw [← seC_append, List.take_append_drop]
        rw [e, List.getElem?_append_left hjl]; exact hj
      have nC : Hid (∀ W : World, W.ownsRow B 70 6 v L.length (seC L) → ∀ j u, (seC (L.drop (p + 1)))[j]? = some u → W.cell? ((⟨gb, (p + 1) * 6, none⟩ : Addr).add j) = some u) := Lib.hid fun W o j u hj => by
        rw [HV.out] at o
        rw [add_off']
        refine own_get o ?_
        have e : seC L = seC (L.take (p + 1)) ++ seC (L.drop (p + 1)) := by rw [← seC_append, List.take_append_drop]
        have hl : (seC (L.take (p + 1))).length = (p + 1) * 6 := by rw [seC_len, List.length_take]; omega
        rw [e, List.getElem?_append_right (by omega), hl, Nat.add_sub_cancel_left]; exact hj
      have ltA : (seC (L.take p)).length = p * 6 := by rw [seC_len, List.length_take]; omega
      have ltC : (seC (L.drop (p + 1))).length = (L.length - (p + 1)) * 6 := by rw [seC_len, List.length_drop]
      have lenZ : (L.take p ++ L.drop (p + 1)).length = p + (L.length - (p + 1)) := by simp; omega
      replace ltA := Lib.hid ltA
      replace ltC := Lib.hid ltC
      replace lenZ := Lib.hid lenZ
      have FIN : Hid (∀ (W : World) v', Below w.heap.size w W → W.ownsRow w.heap.size 70 6 v' (L.take p ++ L.drop (p + 1)).length (seC (L.take p ++ L.drop (p + 1))) → XN B w (W.setCell ⟨x, 0, none⟩ v') x v (L.take p ++ L.drop (p + 1)) v') := Lib.hid fun W v' hW o => xl_end H.out hW hB o
      clear h hv he hf
      rcases Nat.lt_or_eq_of_le (show p + 1 ≤ cb by omega) with hcp | hcp
      · have hcp' : (p : Int) + 1 < (cb : Int) := by omega
        have hcp2 : ¬ cb = p + 1 := by omega
        go_enter Try.func63, Try.ntmps63
        go_wp2_with fail
        refine F.out.mono ?_
        rintro e w1 ⟨rfl, rfl⟩
        go_wp2_with (first
          | (at_builtin; refine wpList_append_own _ rfl (.tmp 26) (.tmp 32) 60 rfl w.heap.size 70 i70 zS 6 64 Try.underlying60 hi70 hz0 hz1 hz2 rfl (by decide) (.slice (some ⟨w.heap.size, 0, none⟩) 0 0) 0 [] rfl oA.out ⟨gb, 0, none⟩ p cb (seC (L.take p)) rfl ltA.out (nA.out _ (ext_alloc w _)) (seC_one _) (by unfold maxLen; omega) (by omega) (by simp) ?_; intro v3 w3 o3 g3 _
             have BW3 := Lib.hid ((ext_alloc w (.cells #[] 70)).grown g3 (by simp) (fun k hk => by simp [Value.ownBlock] at hk; omega))
             have o3' : w3.ownsRow w.heap.size 70 6 v3 p (seC (L.take p)) := by simpa using o3
             obtain ⟨va3, vc3, rfl⟩ := own_slice o3'
             have d3 := (BW3.out.cell (p := ⟨x, 0, none⟩) xlt).trans c0
             have n3 := Lib.hid (nC.out w3 (own_keep H.out.its BW3.out))
             have o3 := Lib.hid o3'
             have z3 : w.heap.size ≤ w3.heap.size := BW3.out.size
             clear o3' g3)
          | (at_builtin; refine wpList_append_own _ rfl (.tmp 34) (.tmp 41) 60 rfl w.heap.size 70 i70 zS 6 64 Try.underlying60 hi70 hz0 hz1 hz2 rfl (by decide) (.slice va3 p vc3) p (seC (L.take p)) rfl o3.out ⟨gb, (p + 1) * 6, none⟩ (L.length - (p + 1)) (cb - (p + 1)) (seC (L.drop (p + 1))) rfl ltC.out n3.out (seC_one _) (by unfold maxLen; omega) (by omega) (by omega) ?_; intro v5 w5 o5 g5 _
             have BW5 := Lib.hid (BW3.out.grown g5 (by have := BW3.out.size; omega) (fun k hk => (o3.out.lt k hk).1))
             obtain ⟨va5, vc5, rfl⟩ := own_slice o5
             have d5 := (BW5.out.cell (p := ⟨x, 0, none⟩) xlt).trans c0
             have f5 := (BW5.out.frozen (p := ⟨x, 0, none⟩) xlt).trans f1
             have o5' := Lib.hid o5
             clear o5 g5))
        go_ret
        exact ⟨rfl, _, FIN.out w5 _ BW5.out (by
          rw [lenZ.out, seC_append]; exact o5'.out)⟩
      · obtain ⟨r, rfl⟩ : ∃ r, p = r := ⟨p, rfl⟩
        have hcp2 : cb = p + 1 := hcp.symm
        clear hcp hcb' hcm'
        go_enter Try.func63, Try.ntmps63
        go_wp2_with fail
        refine F.out.mono ?_
        rintro e w1 ⟨rfl, rfl⟩
        go_wp2_with (first
          | (at_builtin; refine wpList_append_own _ rfl (.tmp 26) (.tmp 32) 60 rfl w.heap.size 70 i70 zS 6 64 Try.underlying60 hi70 hz0 hz1 hz2 rfl (by decide) (.slice (some ⟨w.heap.size, 0, none⟩) 0 0) 0 [] rfl oA.out ⟨gb, 0, none⟩ p (p + 1) (seC (L.take p)) rfl ltA.out (nA.out _ (ext_alloc w _)) (seC_one _) (by unfold maxLen; omega) (by omega) (by simp) ?_; intro v3 w3 o3 g3 _
             have BW3 := Lib.hid ((ext_alloc w (.cells #[] 70)).grown g3 (by simp) (fun k hk => by simp [Value.ownBlock] at hk; omega))
             have o3' : w3.ownsRow w.heap.size 70 6 v3 p (seC (L.take p)) := by simpa using o3
             obtain ⟨va3, vc3, rfl⟩ := own_slice o3'
             have d3 := (BW3.out.cell (p := ⟨x, 0, none⟩) xlt).trans c0
             have n3 := Lib.hid (nC.out w3 (own_keep H.out.its BW3.out))
             have o3 := Lib.hid o3'
             have z3 : w.heap.size ≤ w3.heap.size := BW3.out.size
             clear o3' g3)
          | (at_builtin; refine wpList_append_own _ rfl (.tmp 34) (.tmp 41) 60 rfl w.heap.size 70 i70 zS 6 64 Try.underlying60 hi70 hz0 hz1 hz2 rfl (by decide) (.slice va3 p vc3) p (seC (L.take p)) rfl o3.out _ (L.length - (p + 1)) _ [] rfl (by simp; omega) (by intro j u hj; simp at hj) (by intro u hu; simp at hu) (by unfold maxLen; omega) (by omega) (by omega) ?_; intro v5 w5 o5 g5 _
             have BW5 := Lib.hid (BW3.out.grown g5 (by have := BW3.out.size; omega) (fun k hk => (o3.out.lt k hk).1))
             obtain ⟨va5, vc5, rfl⟩ := own_slice o5
             have d5 := (BW5.out.cell (p := ⟨x, 0, none⟩) xlt).trans c0
             have f5 := (BW5.out.frozen (p := ⟨x, 0, none⟩) xlt).trans f1
             have o5' := Lib.hid o5
             clear o5 g5))
        go_ret
        exact ⟨rfl, _, FIN.out w5 _ BW5.out (by
          rw [lenZ.out, seC_append, List.drop_eq_nil_of_le (by omega)]
          exact o5'.out)⟩
    · have hsb : (e.s != s) = true := by simpa using hs
      simp only [hs, if_false]
      have Z := Lib.hid (xn_same h)
      generalize ixS L id = p at *
      have p0 : ¬ (p : Int) < 0 := by omega
      clear h he hf hv
      go_enter Try.func63, Try.ntmps63
      go_wp2_with fail
      refine F.out.mono ?_
      rintro e w1 ⟨rfl, rfl⟩
      go_wp2
      go_ret
      exact ⟨rfl, v, Z.out⟩
set_option maxRecDepth 100000 in
theorem xack_any (h : Xf B w x v L) (hB : B ≤ w.heap.size) (hL : L.length ≤ 8) (id : Int) : Calls Try.prog 49 #[.pointer (some ⟨x, 0, none⟩), .int .i64 id] w fun e w' => e = .returned (.bool (goneL L id 1).1) ∧ ∃ v', XN B w w' x v (goneL L id 1).2 v' := by
  have G := Lib.hid (gone_any h hB hL id 1)
  clear h
  go_enter Try.func49, Try.ntmps49
  go_wp2_with fail
  refine G.out.mono ?_
  rintro e w1 ⟨rfl, z⟩
  replace z := Lib.hid z
  go_wp2
  go_ret
  exact ⟨rfl, z.out⟩
set_option maxRecDepth 100000 in
theorem xcomp_any (h : Xf B w x v L) (hB : B ≤ w.heap.size) (hL : L.length ≤ 8) (id : Int) : Calls Try.prog 51 #[.pointer (some ⟨x, 0, none⟩), .int .i64 id] w fun e w' => e = .returned (.bool (goneL L id 3).1) ∧ ∃ v', XN B w w' x v (goneL L id 3).2 v' := by
  have G := Lib.hid (gone_any h hB hL id 3)
  clear h
  go_enter Try.func51, Try.ntmps51
  go_wp2_with fail
  refine G.out.mono ?_
  rintro e w1 ⟨rfl, z⟩
  replace z := Lib.hid z
  go_wp2
  go_ret
  exact ⟨rfl, z.out⟩
end
end Go.Proofs.Ytcjoemejoeekiaa.Fli

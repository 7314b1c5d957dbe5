/-
  LAYER 14: Put, the program's: the number, the length, the bytes.
-/
import Derived.Test.YtmpklaokgogigaaDoorPf
namespace Go.Proofs.YtmpklaokgogigaaDoor.Pub
set_option linter.unusedSimpArgs false
set_option linter.unusedVariables false
open Go.RowKit

theorem put_row (t : ByteArray) (rt : List Nat) (h : t.size ≤ 65535) (hr : rightB t = true) (hrt : rt = rawL t) (w : World) : Calls Tryd.prog 96 #[.string t] w fun e w' => ∃ v, e = .returned (.tuple #[v, .int .i64 0]) ∧ w'.ownsRow w.heap.size 5 1 v rt.length (bl rt) ∧ Below w.heap.size w w' := by
  subst hrt
  exact (put_ok t w h hr).mono fun e w' h => h
set_option maxHeartbeats 2000000 in
set_option maxRecDepth 100000 in
theorem put14_runP (t x : ByteArray) (q id E : Int) (r : Bool) (nl rt p : List Nat) (w : World)
    (hq0 : 0 ≤ q) (hq2 : q ≤ 2) (hx : x.size ≤ 140737488351232) (ht : t.size ≤ 65535) (htp : topicB t = true)
    (P : ∀ w, Calls Tryd.prog 96 #[.string t] w fun e w' => ∃ v, e = .returned (.tuple #[v, .int .i64 0]) ∧ w'.ownsRow w.heap.size 5 1 v rt.length (bl rt) ∧ Below w.heap.size w w')
    (NB : ∀ w, Calls Tryd.prog 63 #[.int .i64 q] w fun e w' => e = .returned (.agg #[.func (.func 78) #[] #[], .func (.func 64) #[] #[]]) ∧ Below w.heap.size w w')
    (KF : ∀ w, (Instr.field 114 (.agg #[.func (.func 78) #[] #[], .func (.func 64) #[] #[]]) 0).run Tryd.prog w = .ok (.func (.func 78) #[] #[]) w)
    (ID : ∀ w, Calls Tryd.prog 78 #[.int .i64 id] w (Numb nl 0 w)) (hnl : nl.length ≤ 2) (hrt : rt.length ≤ 65537) (hp : p = rt ++ nl) (hp0 : p ≠ []) (hpl : p.length ≤ 65539) :
    (4096 < p.length + x.size → Calls Tryd.prog 77 #[.agg #[.string t, .string x, .int .i64 q, .bool r], .int .i64 id] w (Numb [] 3 w)) ∧
    (p.length + x.size ≤ 4096 → Calls Tryd.prog 77 #[.agg #[.string t, .string x, .int .i64 q, .bool r], .int .i64 id] w (Numb (p ++ txtL x) 0 w)) := by
  obtain ⟨i0, hi, hz0, hz1, hz2⟩ := info_parts info5
  have T := fun w => topic_any t w (by omega)
  rw [htp] at T
  replace T := Lib.hid T
  replace P := Lib.hid P
  replace NB := Lib.hid NB
  replace ID := Lib.hid ID
  replace hp := Lib.hid hp
  replace hp0 := Lib.hid hp0
  have hx' : (x.size : Int) ≤ 140737488351232 := by omega
  have hpl' : (p.length : Int) ≤ 65539 := by omega
  clear htp
  have b0 := Lib.hid (ext_alloc w (.cells #[.string t, .string x, .int .i64 q, .bool r] 27))
  refine ⟨fun hL => ?_, fun hL => ?_⟩
  · have hL' : (4096 : Int) < p.length + x.size := by omega
    go_enter Tryd.func77, Tryd.ntmps77
    go_wp2_with fail
    refine (T.out _).mono ?_
    rintro e w1 ⟨rfl, b1⟩
    have c00 : w1.cell? ⟨w.heap.size, 0, none⟩ = some (.string t) := by rw [b1.cell (by simp), World.cell?_alloc_at _ _ _ _ rfl]; rfl
    have c01 : w1.cell? ⟨w.heap.size, 1, none⟩ = some (.string x) := by rw [b1.cell (by simp), World.cell?_alloc_at _ _ _ _ rfl]; rfl
    have c02 : w1.cell? ⟨w.heap.size, 2, none⟩ = some (.int .i64 q) := by rw [b1.cell (by simp), World.cell?_alloc_at _ _ _ _ rfl]; rfl
    have hs1 : w.heap.size < w1.heap.size := by have := b1.size; simp at this; omega
    replace b1 := Lib.hid (ext_trans b0.out b1)
    go_wp2_with fail
    refine (P.out _).mono ?_
    rintro e w2 ⟨v2, rfl, o2, b2⟩
    have d01 : w2.cell? ⟨w.heap.size, 1, none⟩ = some (.string x) := by rw [b2.cell hs1]; exact c01
    have d02 : w2.cell? ⟨w.heap.size, 2, none⟩ = some (.int .i64 q) := by rw [b2.cell hs1]; exact c02
    have hs2 : w1.heap.size ≤ w2.heap.size := b2.size
    have hs2' : w.heap.size < w2.heap.size := by omega
    replace b2 := Lib.hid b2
    replace o2 := Lib.hid o2
    clear c00 c01 c02
    go_wp2_with fail
    refine (NB.out _).mono ?_
    rintro e w3 ⟨rfl, b3⟩
    have e01 : w3.cell? ⟨w.heap.size, 1, none⟩ = some (.string x) := by rw [b3.cell hs2']; exact d01
    have hs3 : w2.heap.size ≤ w3.heap.size := b3.size
    have hs3' : w.heap.size < w3.heap.size := by omega
    replace b3 := Lib.hid b3
    clear d01 d02
    go_wp2_with fail
    refine (ID.out _).mono ?_
    rintro e w4 ⟨v4, rfl, a4, b4⟩
    have f01 : w4.cell? ⟨w.heap.size, 1, none⟩ = some (.string x) := by rw [b4.cell hs3']; exact e01
    have hs4 : w3.heap.size ≤ w4.heap.size := b4.size
    have o4 : w4.ownsRow w1.heap.size 5 1 v2 rt.length (bl rt) := own_below o2.out (ext_trans b3.out b4)
    have B4 := Lib.hid (ext_trans b1.out (ext_trans b2.out (ext_trans b3.out b4)))
    clear e01 b4
    have hw1 : w1.heap.size ≤ w4.heap.size := by omega
    go_wp2_with (at_builtin; refine wpList_append_bytes _ rfl (.tmp 42) (.tmp 43) 48 rfl w1.heap.size 5 i0 Tryd.underlying48 hi hz0 hz1 hz2 v2 rt nl rfl o4 a4 (by omega) hw1 ?_; intro v5 w5 o5 g5 n5; have b5 := Lib.hid (grown_ext o4 g5 hw1); have g01 : w5.cell? ⟨w.heap.size, 1, none⟩ = some (.string x) := (by rw [b5.out.cell hs1]; exact f01); rw [← hp.out] at o5; obtain ⟨q5, r5, rfl⟩ := form_of o5 hp0.out; replace o5 := Lib.hid o5; clear o4 a4 g5 n5 f01)
    go_ret2
    exact ⟨_, rfl, ⟨none, 0, rfl, ⟨by simp, fun _ => rfl⟩, .inl rfl⟩, B4.out.trans (b5.out.mono (by omega))⟩
  · have hL' : (p.length : Int) + x.size ≤ 4096 := by omega
    go_enter Tryd.func77, Tryd.ntmps77
    go_wp2_with fail
    refine (T.out _).mono ?_
    rintro e w1 ⟨rfl, b1⟩
    have c00 : w1.cell? ⟨w.heap.size, 0, none⟩ = some (.string t) := by rw [b1.cell (by simp), World.cell?_alloc_at _ _ _ _ rfl]; rfl
    have c01 : w1.cell? ⟨w.heap.size, 1, none⟩ = some (.string x) := by rw [b1.cell (by simp), World.cell?_alloc_at _ _ _ _ rfl]; rfl
    have c02 : w1.cell? ⟨w.heap.size, 2, none⟩ = some (.int .i64 q) := by rw [b1.cell (by simp), World.cell?_alloc_at _ _ _ _ rfl]; rfl
    have hs1 : w.heap.size < w1.heap.size := by have := b1.size; simp at this; omega
    replace b1 := Lib.hid (ext_trans b0.out b1)
    go_wp2_with fail
    refine (P.out _).mono ?_
    rintro e w2 ⟨v2, rfl, o2, b2⟩
    have d01 : w2.cell? ⟨w.heap.size, 1, none⟩ = some (.string x) := by rw [b2.cell hs1]; exact c01
    have d02 : w2.cell? ⟨w.heap.size, 2, none⟩ = some (.int .i64 q) := by rw [b2.cell hs1]; exact c02
    have hs2 : w1.heap.size ≤ w2.heap.size := b2.size
    have hs2' : w.heap.size < w2.heap.size := by omega
    replace b2 := Lib.hid b2
    replace o2 := Lib.hid o2
    clear c00 c01 c02
    go_wp2_with fail
    refine (NB.out _).mono ?_
    rintro e w3 ⟨rfl, b3⟩
    have e01 : w3.cell? ⟨w.heap.size, 1, none⟩ = some (.string x) := by rw [b3.cell hs2']; exact d01
    have hs3 : w2.heap.size ≤ w3.heap.size := b3.size
    have hs3' : w.heap.size < w3.heap.size := by omega
    replace b3 := Lib.hid b3
    clear d01 d02
    go_wp2_with fail
    refine (ID.out _).mono ?_
    rintro e w4 ⟨v4, rfl, a4, b4⟩
    have f01 : w4.cell? ⟨w.heap.size, 1, none⟩ = some (.string x) := by rw [b4.cell hs3']; exact e01
    have hs4 : w3.heap.size ≤ w4.heap.size := b4.size
    have o4 : w4.ownsRow w1.heap.size 5 1 v2 rt.length (bl rt) := own_below o2.out (ext_trans b3.out b4)
    have B4 := Lib.hid (ext_trans b1.out (ext_trans b2.out (ext_trans b3.out b4)))
    clear e01 b4
    have hw1 : w1.heap.size ≤ w4.heap.size := by omega
    go_wp2_with (first
      | (at_builtin; refine wpList_append_bytes _ rfl (.tmp 42) (.tmp 43) 48 rfl w1.heap.size 5 i0 Tryd.underlying48 hi hz0 hz1 hz2 v2 rt nl rfl o4 a4 (by omega) hw1 ?_; intro v5 w5 o5 g5 n5; have b5 := Lib.hid (grown_ext o4 g5 hw1); have g01 : w5.cell? ⟨w.heap.size, 1, none⟩ = some (.string x) := (by rw [b5.out.cell hs1]; exact f01); rw [← hp.out] at o5; obtain ⟨q5, r5, rfl⟩ := form_of o5 hp0.out; have hw5 : w1.heap.size ≤ w5.heap.size := (by have := b5.out.size; omega); clear o4 a4 g5 n5 f01)
      | (at_builtin; refine Lib.wpList_append_own_string _ rfl (.tmp 52) (.tmp 54) 48 9 rfl w1.heap.size 5 i0 Tryd.underlying48 Tryd.underlying9 hi hz0 hz1 hz2 (.slice (some ⟨q5, 0, none⟩) p.length r5) p.length (bl p) rfl o5 x rfl (by unfold maxLen; omega) (by omega) hw5 ?_; intro v6 w6 o6 g6 n6; have b6 := Lib.hid (grown_ext o5 g6 hw5); clear o5 g6 n6))
    go_ret2
    refine ⟨_, rfl, BytesAt.of_own (l := p ++ txtL x) (e := 5) (B := w1.heap.size) ?_, B4.out.trans ((b5.out.mono (by omega)).trans (b6.out.mono (by omega)))⟩
    rw [bl_append, bl_txt, List.length_append, txtL_length]
    exact o6
set_option maxHeartbeats 2000000 in
set_option maxRecDepth 100000 in
theorem put14_run0 (t x : ByteArray) (q id E : Int) (r : Bool) (nl rt p : List Nat) (w : World)
    (hq0 : 0 ≤ q) (hq2 : q ≤ 2) (hx : x.size ≤ 140737488351232) (ht : t.size ≤ 65535) (htp : topicB t = true)
    (P : ∀ w, Calls Tryd.prog 96 #[.string t] w fun e w' => ∃ v, e = .returned (.tuple #[v, .int .i64 0]) ∧ w'.ownsRow w.heap.size 5 1 v rt.length (bl rt) ∧ Below w.heap.size w w')
    (NB : ∀ w, Calls Tryd.prog 63 #[.int .i64 q] w fun e w' => e = .returned (.agg #[.func (.func 87) #[] #[], .func (.func 88) #[] #[]]) ∧ Below w.heap.size w w')
    (KF : ∀ w, (Instr.field 114 (.agg #[.func (.func 87) #[] #[], .func (.func 88) #[] #[]]) 0).run Tryd.prog w = .ok (.func (.func 87) #[] #[]) w)
    (ID : ∀ w, Calls Tryd.prog 87 #[.int .i64 id] w (Numb nl 0 w)) (hnl : nl.length ≤ 2) (hrt : rt.length ≤ 65537) (hp : p = rt ++ nl) (hp0 : p ≠ []) (hpl : p.length ≤ 65539) :
    (4096 < p.length + x.size → Calls Tryd.prog 77 #[.agg #[.string t, .string x, .int .i64 q, .bool r], .int .i64 id] w (Numb [] 3 w)) ∧
    (p.length + x.size ≤ 4096 → Calls Tryd.prog 77 #[.agg #[.string t, .string x, .int .i64 q, .bool r], .int .i64 id] w (Numb (p ++ txtL x) 0 w)) := by
  obtain ⟨i0, hi, hz0, hz1, hz2⟩ := info_parts info5
  have T := fun w => topic_any t w (by omega)
  rw [htp] at T
  replace T := Lib.hid T
  replace P := Lib.hid P
  replace NB := Lib.hid NB
  replace ID := Lib.hid ID
  replace hp := Lib.hid hp
  replace hp0 := Lib.hid hp0
  have hx' : (x.size : Int) ≤ 140737488351232 := by omega
  have hpl' : (p.length : Int) ≤ 65539 := by omega
  clear htp
  have b0 := Lib.hid (ext_alloc w (.cells #[.string t, .string x, .int .i64 q, .bool r] 27))
  refine ⟨fun hL => ?_, fun hL => ?_⟩
  · have hL' : (4096 : Int) < p.length + x.size := by omega
    go_enter Tryd.func77, Tryd.ntmps77
    go_wp2_with fail
    refine (T.out _).mono ?_
    rintro e w1 ⟨rfl, b1⟩
    have c00 : w1.cell? ⟨w.heap.size, 0, none⟩ = some (.string t) := by rw [b1.cell (by simp), World.cell?_alloc_at _ _ _ _ rfl]; rfl
    have c01 : w1.cell? ⟨w.heap.size, 1, none⟩ = some (.string x) := by rw [b1.cell (by simp), World.cell?_alloc_at _ _ _ _ rfl]; rfl
    have c02 : w1.cell? ⟨w.heap.size, 2, none⟩ = some (.int .i64 q) := by rw [b1.cell (by simp), World.cell?_alloc_at _ _ _ _ rfl]; rfl
    have hs1 : w.heap.size < w1.heap.size := by have := b1.size; simp at this; omega
    replace b1 := Lib.hid (ext_trans b0.out b1)
    go_wp2_with fail
    refine (P.out _).mono ?_
    rintro e w2 ⟨v2, rfl, o2, b2⟩
    have d01 : w2.cell? ⟨w.heap.size, 1, none⟩ = some (.string x) := by rw [b2.cell hs1]; exact c01
    have d02 : w2.cell? ⟨w.heap.size, 2, none⟩ = some (.int .i64 q) := by rw [b2.cell hs1]; exact c02
    have hs2 : w1.heap.size ≤ w2.heap.size := b2.size
    have hs2' : w.heap.size < w2.heap.size := by omega
    replace b2 := Lib.hid b2
    replace o2 := Lib.hid o2
    clear c00 c01 c02
    go_wp2_with fail
    refine (NB.out _).mono ?_
    rintro e w3 ⟨rfl, b3⟩
    have e01 : w3.cell? ⟨w.heap.size, 1, none⟩ = some (.string x) := by rw [b3.cell hs2']; exact d01
    have hs3 : w2.heap.size ≤ w3.heap.size := b3.size
    have hs3' : w.heap.size < w3.heap.size := by omega
    replace b3 := Lib.hid b3
    clear d01 d02
    go_wp2_with fail
    refine (ID.out _).mono ?_
    rintro e w4 ⟨v4, rfl, a4, b4⟩
    have f01 : w4.cell? ⟨w.heap.size, 1, none⟩ = some (.string x) := by rw [b4.cell hs3']; exact e01
    have hs4 : w3.heap.size ≤ w4.heap.size := b4.size
    have o4 : w4.ownsRow w1.heap.size 5 1 v2 rt.length (bl rt) := own_below o2.out (ext_trans b3.out b4)
    have B4 := Lib.hid (ext_trans b1.out (ext_trans b2.out (ext_trans b3.out b4)))
    clear e01 b4
    have hw1 : w1.heap.size ≤ w4.heap.size := by omega
    go_wp2_with (at_builtin; refine wpList_append_bytes _ rfl (.tmp 42) (.tmp 43) 48 rfl w1.heap.size 5 i0 Tryd.underlying48 hi hz0 hz1 hz2 v2 rt nl rfl o4 a4 (by omega) hw1 ?_; intro v5 w5 o5 g5 n5; have b5 := Lib.hid (grown_ext o4 g5 hw1); have g01 : w5.cell? ⟨w.heap.size, 1, none⟩ = some (.string x) := (by rw [b5.out.cell hs1]; exact f01); rw [← hp.out] at o5; obtain ⟨q5, r5, rfl⟩ := form_of o5 hp0.out; replace o5 := Lib.hid o5; clear o4 a4 g5 n5 f01)
    go_ret2
    exact ⟨_, rfl, ⟨none, 0, rfl, ⟨by simp, fun _ => rfl⟩, .inl rfl⟩, B4.out.trans (b5.out.mono (by omega))⟩
  · have hL' : (p.length : Int) + x.size ≤ 4096 := by omega
    go_enter Tryd.func77, Tryd.ntmps77
    go_wp2_with fail
    refine (T.out _).mono ?_
    rintro e w1 ⟨rfl, b1⟩
    have c00 : w1.cell? ⟨w.heap.size, 0, none⟩ = some (.string t) := by rw [b1.cell (by simp), World.cell?_alloc_at _ _ _ _ rfl]; rfl
    have c01 : w1.cell? ⟨w.heap.size, 1, none⟩ = some (.string x) := by rw [b1.cell (by simp), World.cell?_alloc_at _ _ _ _ rfl]; rfl
    have c02 : w1.cell? ⟨w.heap.size, 2, none⟩ = some (.int .i64 q) := by rw [b1.cell (by simp), World.cell?_alloc_at _ _ _ _ rfl]; rfl
    have hs1 : w.heap.size < w1.heap.size := by have := b1.size; simp at this; omega
    replace b1 := Lib.hid (ext_trans b0.out b1)
    go_wp2_with fail
    refine (P.out _).mono ?_
    rintro e w2 ⟨v2, rfl, o2, b2⟩
    have d01 : w2.cell? ⟨w.heap.size, 1, none⟩ = some (.string x) := by rw [b2.cell hs1]; exact c01
    have d02 : w2.cell? ⟨w.heap.size, 2, none⟩ = some (.int .i64 q) := by rw [b2.cell hs1]; exact c02
    have hs2 : w1.heap.size ≤ w2.heap.size := b2.size
    have hs2' : w.heap.size < w2.heap.size := by omega
    replace b2 := Lib.hid b2
    replace o2 := Lib.hid o2
    clear c00 c01 c02
    go_wp2_with fail
    refine (NB.out _).mono ?_
    rintro e w3 ⟨rfl, b3⟩
    have e01 : w3.cell? ⟨w.heap.size, 1, none⟩ = some (.string x) := by rw [b3.cell hs2']; exact d01
    have hs3 : w2.heap.size ≤ w3.heap.size := b3.size
    have hs3' : w.heap.size < w3.heap.size := by omega
    replace b3 := Lib.hid b3
    clear d01 d02
    go_wp2_with fail
    refine (ID.out _).mono ?_
    rintro e w4 ⟨v4, rfl, a4, b4⟩
    have f01 : w4.cell? ⟨w.heap.size, 1, none⟩ = some (.string x) := by rw [b4.cell hs3']; exact e01
    have hs4 : w3.heap.size ≤ w4.heap.size := b4.size
    have o4 : w4.ownsRow w1.heap.size 5 1 v2 rt.length (bl rt) := own_below o2.out (ext_trans b3.out b4)
    have B4 := Lib.hid (ext_trans b1.out (ext_trans b2.out (ext_trans b3.out b4)))
    clear e01 b4
    have hw1 : w1.heap.size ≤ w4.heap.size := by omega
    go_wp2_with (first
      | (at_builtin; refine wpList_append_bytes _ rfl (.tmp 42) (.tmp 43) 48 rfl w1.heap.size 5 i0 Tryd.underlying48 hi hz0 hz1 hz2 v2 rt nl rfl o4 a4 (by omega) hw1 ?_; intro v5 w5 o5 g5 n5; have b5 := Lib.hid (grown_ext o4 g5 hw1); have g01 : w5.cell? ⟨w.heap.size, 1, none⟩ = some (.string x) := (by rw [b5.out.cell hs1]; exact f01); rw [← hp.out] at o5; obtain ⟨q5, r5, rfl⟩ := form_of o5 hp0.out; have hw5 : w1.heap.size ≤ w5.heap.size := (by have := b5.out.size; omega); clear o4 a4 g5 n5 f01)
      | (at_builtin; refine Lib.wpList_append_own_string _ rfl (.tmp 52) (.tmp 54) 48 9 rfl w1.heap.size 5 i0 Tryd.underlying48 Tryd.underlying9 hi hz0 hz1 hz2 (.slice (some ⟨q5, 0, none⟩) p.length r5) p.length (bl p) rfl o5 x rfl (by unfold maxLen; omega) (by omega) hw5 ?_; intro v6 w6 o6 g6 n6; have b6 := Lib.hid (grown_ext o5 g6 hw5); clear o5 g6 n6))
    go_ret2
    refine ⟨_, rfl, BytesAt.of_own (l := p ++ txtL x) (e := 5) (B := w1.heap.size) ?_, B4.out.trans ((b5.out.mono (by omega)).trans (b6.out.mono (by omega)))⟩
    rw [bl_append, bl_txt, List.length_append, txtL_length]
    exact o6
end Go.Proofs.YtmpklaokgogigaaDoor.Pub

/-
  LAYER 30: Tryd.
-/
import Derived.Test.YtihblangceblhaaDoorAc
import Derived.StillTailTactics
import Derived.Deep.QuietTactic
import Derived.BigQuiet
namespace Go.Proofs.YtihblangceblhaaDoor
set_option linter.unusedSimpArgs false
set_option linter.unusedVariables false
open Go.RowKit Go.Maps Go.WideMaps

/-- May a number not be an owner's? -/
def usedB (T : List En) (o : ByteArray) (seen : List Int) (a : Int) : Bool :=
  decide (a ∈ seen) || match findT T a with | some e => decide (e.o ≠ o) | none => false
/-- The numbers of the items, if each may be. -/
def scan (T : List En) (o : ByteArray) : List Int → List It → Option (List Int)
  | seen, [] => some seen
  | seen, x :: l => if x.a1 then (if usedB T o seen x.a2 then none else scan T o (seen ++ [x.a2]) l) else scan T o seen l
def tryE (T : List En) (o : ByteArray) (l : List It) : Int :=
  match scan T o [] l with
  | none => 16
  | some s => if 64 < (notO T o).length + s.length then 6 else 0
/-- A set of numbers in block m2. -/
structure Sn (w : World) (m2 : Nat) (s : List Int) (D : DataW Unit) : Prop where
  map : w.ownsMap Tryd.prog 23 unitElem m2 s.length D
  size : Maps.size D = s.length
  rd : ∀ a, has D (ky a) = decide (a ∈ s)
theorem Sn.keep {w w' : World} {m2 : Nat} {s : List Int} {D : DataW Unit} (h : Sn w m2 s D) (hb : Below w.heap.size w w') : Sn w' m2 s D := by
  refine ⟨?_, h.size, h.rd⟩
  obtain ⟨es, clock, hm, r⟩ := h.map
  exact ⟨es, clock, (hb.block m2 h.map.lt).trans hm, r⟩
theorem scan_len (T : List En) (o : ByteArray) : ∀ (l : List It) (s t : List Int), scan T o s l = some t → t.length ≤ s.length + l.length ∧ s.length ≤ t.length := by
  intro l
  induction l with
  | nil => intro s t h; simp [scan] at h; subst h; simp
  | cons x l ih =>
    intro s t h
    rw [scan] at h
    split at h
    · split at h
      · cases h
      · have := ih _ _ h; simp at this ⊢; omega
    · have := ih _ _ h; simp at this ⊢; omega
theorem look_form (T : List En) (o : ByteArray) (s : List Int) (a : Int) : ∃ eo en th, lookV T a = .tuple #[.agg #[.string eo, .string en], .bool th] ∧ usedB T o s a = (decide (a ∈ s) || (th && decide (eo ≠ o))) := by
  unfold lookV usedB
  cases findT T a with
  | none => exact ⟨_, _, _, rfl, by simp⟩
  | some e => exact ⟨e.o, e.n, true, rfl, by simp⟩
theorem Sn.put {w w' : World} {m2 : Nat} {s : List Int} {D : DataW Unit} (h : Sn w m2 s D) {a : Int} (ha : a ∉ s) (hm : w'.ownsMap Tryd.prog 23 unitElem m2 (s.length + 1) (D.put (ky a) (.agg []))) : Sn w' m2 (s ++ [a]) (D.put (ky a) (.agg [])) := by
  have hh : has D (ky a) = false := by rw [h.rd]; simpa using ha
  refine ⟨by rw [List.length_append, List.length_singleton]; exact hm, ?_, fun b => ?_⟩
  · rw [size_put (h.map.tidy law23), hh, h.size]; simp
  · by_cases hb : b = a
    · subst hb
      rw [has_put_same h.map.isMap (ky_key _)]; simp
    · rw [has_put_other (ky_ne hb), h.rd]; simp [hb]
set_option maxHeartbeats 4000000 in
set_option maxRecDepth 100000 in
theorem try_any {w : World} {g m : Nat} {T : List En} {D : DataW Unit} (h : Tb w g m T D) (o : ByteArray) (v : Value) (l : List It) (hl : ItsAt w v l) (hok : ∀ x ∈ l, x.ok) (hlen : l.length ≤ 1000000) :
    Calls Tryd.prog 26 #[.pointer (some ⟨g, 0, none⟩), .string o, v] w fun e w' => e = .returned (.int .i64 (tryE T o l)) ∧ Below w.heap.size w w' := by
  have N := Lib.hid (none_any h)
  have O := Lib.hid (fun w' (hb : Below w.heap.size w w') => others_any (h.keep hb) o)
  have H := Lib.hid h
  obtain ⟨a, cap, rfl, -, hc⟩ := hl
  have hlen' : (l.length : Int) ≤ 1000000 := by omega
  have hmm := @run_makeMap Tryd.prog
  obtain ⟨E, hE⟩ : ∃ E, E = tryE T o l := ⟨_, rfl⟩
  rw [← hE]
  replace hE := Lib.hid hE
  replace hc := Lib.hid hc
  replace hok := Lib.hid hok
  clear h
  go_enter Tryd.func26, Tryd.ntmps26
  go_wp2_with (first | (go_at_call 35; refine N.out.mono ?_; rintro e w' ⟨rfl, rfl⟩))
  go_loopw [19] (fun i wr => ∃ (k : Nat) (s : List Int) (D2 : DataW Unit), i = .int .i64 (k : Int) ∧ k ≤ l.length ∧ s.length ≤ k ∧ scan T o [] l = scan T o s (l.drop k) ∧ Sn wr w.heap.size s D2 ∧ Below w.heap.size w wr) (fun i _ => l.length - (intOf i).toNat)
  case atStart => exact ⟨0, [], .map [], rfl, by omega, by simp, rfl, ⟨World.ownsMap_made _ _ _ _, rfl, fun a => rfl⟩, (Below.refl _ _).alloc (Nat.le_refl _) _⟩
  case round =>
    obtain ⟨k, s, D2, rfl, hk, hsk, hsc, hsn, hb⟩ := hrel
    by_cases hlt : k < l.length
    · obtain ⟨x, hx⟩ : ∃ x, l[k]? = some x := ⟨_, List.getElem?_eq_getElem hlt⟩
      have hxo := hok.out x (List.mem_of_getElem? hx)
      have hdk : l.drop k = x :: l.drop (k + 1) := by rw [List.drop_eq_getElem_cons hlt, (List.getElem?_eq_some_iff.1 hx).2]
      rw [hdk, scan] at hsc
      obtain ⟨b, o0, rfl, hbl, q0, q1, q2, q3, q4, q5, q6, q7⟩ := itsAt_at hx hb hc.out
      obtain ⟨a0, a1, a2, a3, a4, a5, a6, a7⟩ := x
      simp only at q0 q1 q2 q3 q4 q5 q6 q7 hsc
      obtain ⟨ok0, ok2, ok3, ok5, ok6, ok7⟩ := hxo
      simp only at ok2
      have hlt' : (k : Int) < l.length := by omega
      replace hx := Lib.hid hx
      replace hdk := Lib.hid hdk
      cases a1
      · simp only [Bool.false_eq_true, if_false] at hsc
        replace hsc := Lib.hid hsc
        replace hsn := Lib.hid hsn
        replace hb := Lib.hid hb
        go_wp2
        go_roundw
        case rel => exact ⟨k + 1, s, D2, by simp, by omega, by omega, hsc.out, hsn.out.keep (ext_alloc _ _), hb.out.alloc hb.out.size _⟩
        case measure => simp [intOf]; omega
      · rw [if_pos rfl] at hsc
        obtain ⟨eo, en, th, hlv, hU⟩ := look_form T o s a2
        have hh2 := hsn.rd a2
        by_cases hms : a2 ∈ s
        · rw [decide_eq_true hms] at hh2
          rw [hU, decide_eq_true hms, Bool.true_or, if_pos rfl] at hsc
          have hsnA : Sn (wr.alloc (.cells #[.string a0, .bool true, .int .u64 a2, .int .u32 a3, .bool a4, .int .i64 a5, .int .u64 a6, .string a7] 37)) w.heap.size s D2 := hsn.keep ((Below.refl _ _).alloc (Nat.le_refl _) _)
          have hm2 := hsnA.map
          replace hsc := Lib.hid hsc
          replace hsnA := Lib.hid hsnA
          replace hU := Lib.hid hU
          replace hsn := Lib.hid hsn
          replace hms := Lib.hid hms
          go_wp2_with (first | (at_lookup; refine wpList_lookup_own_unit _ rfl _ _ 83 rfl 23 84 law23 Tryd.underlying83 (zero61 _) w.heap.size _ D2 rfl hm2 _ (ky a2) rfl (key_of ok2) ?_; rw [hh2]))
          have LK : ∀ W : World, Below w.heap.size w W → (Instr.lookup 67 (.map (some m)) (.int .u64 a2) true).run Tryd.prog W = .ok (lookV T a2) W := fun W hW => (H.out.keep hW).look ok2
          have hbA := (hb.alloc hb.size (.cells #[.string a0, .bool true, .int .u64 a2, .int .u32 a3, .bool a4, .int .i64 a5, .int .u64 a6, .string a7] 37)).alloc (by have := hb.size; simp; omega) (.cells #[] 84)
          have hbB : Below wr.heap.size wr ((wr.alloc (.cells #[.string a0, .bool true, .int .u64 a2, .int .u32 a3, .bool a4, .int .i64 a5, .int .u64 a6, .string a7] 37)).alloc (.cells #[] 84)) := ((Below.refl _ _).alloc (Nat.le_refl _) _).alloc (by simp) _
          generalize hW1 : ((wr.alloc (.cells #[.string a0, .bool true, .int .u64 a2, .int .u32 a3, .bool a4, .int .i64 a5, .int .u64 a6, .string a7] 37)).alloc (.cells #[] 84)) = W1 at *
          have l1 := LK W1.drew hbA.drew
          have hbZ := (hbA.alloc hbA.size (.cells #[.string { data := #[] }, .string { data := #[] }] 72))
          have l2 := LK (W1.alloc (.cells #[.string { data := #[] }, .string { data := #[] }] 72)).drew hbZ.drew
          have cg2 : (W1.alloc (.cells #[.string { data := #[] }, .string { data := #[] }] 72)).cell? ⟨g, 0, none⟩ = some (.map (some m)) := (H.out.keep hbZ).at
          have cg : W1.cell? ⟨g, 0, none⟩ = some (.map (some m)) := (H.out.keep hbA).at
          have ci : W1.cell? ⟨wr.heap.size, 2, none⟩ = some (.int .u64 a2) := by rw [← hW1]; simp
          have hszz : wr.heap.size < W1.heap.size := by rw [← hW1]; simp; omega
          have ci2 : (W1.alloc (.cells #[.string { data := #[] }, .string { data := #[] }] 72)).cell? ⟨wr.heap.size, 2, none⟩ = some (.int .u64 a2) := (Below.cell (B := W1.heap.size) ((Below.refl _ _).alloc (Nat.le_refl _) _) (by simpa using hszz)).trans ci
          rw [hlv] at l1 l2
          replace hW1 := Lib.hid hW1
          replace hbA := Lib.hid hbA
          replace hbZ := Lib.hid hbZ
          replace hbB := Lib.hid hbB
          replace hlv := Lib.hid hlv
          replace hb := Lib.hid hb
          clear LK
          go_region
          all_goals
            go_wp2
            go_ret
            refine ⟨?_, ?_⟩
            · have : E = 16 := by rw [hE.out]; unfold tryE; rw [hsc.out]
              rw [this]; rfl
            · exact (hbA.out.alloc hbA.out.size _).drew
        · rw [decide_eq_false hms] at hh2
          rw [decide_eq_false hms, Bool.false_or] at hU
          cases th
          · rw [hU, Bool.false_and, if_neg (by simp)] at hsc
            have hsnA : Sn (wr.alloc (.cells #[.string a0, .bool true, .int .u64 a2, .int .u32 a3, .bool a4, .int .i64 a5, .int .u64 a6, .string a7] 37)) w.heap.size s D2 := hsn.keep ((Below.refl _ _).alloc (Nat.le_refl _) _)
            have hm2 := hsnA.map
            replace hsc := Lib.hid hsc
            replace hsnA := Lib.hid hsnA
            replace hU := Lib.hid hU
            replace hsn := Lib.hid hsn
            replace hms := Lib.hid hms
            go_wp2_with (first | (at_lookup; refine wpList_lookup_own_unit _ rfl _ _ 83 rfl 23 84 law23 Tryd.underlying83 (zero61 _) w.heap.size _ D2 rfl hm2 _ (ky a2) rfl (key_of ok2) ?_; rw [hh2]))
            have LK : ∀ W : World, Below w.heap.size w W → (Instr.lookup 67 (.map (some m)) (.int .u64 a2) true).run Tryd.prog W = .ok (lookV T a2) W := fun W hW => (H.out.keep hW).look ok2
            have hbA := (hb.alloc hb.size (.cells #[.string a0, .bool true, .int .u64 a2, .int .u32 a3, .bool a4, .int .i64 a5, .int .u64 a6, .string a7] 37)).alloc (by have := hb.size; simp; omega) (.cells #[] 84)
            have hbB : Below wr.heap.size wr ((wr.alloc (.cells #[.string a0, .bool true, .int .u64 a2, .int .u32 a3, .bool a4, .int .i64 a5, .int .u64 a6, .string a7] 37)).alloc (.cells #[] 84)) := ((Below.refl _ _).alloc (Nat.le_refl _) _).alloc (by simp) _
            generalize hW1 : ((wr.alloc (.cells #[.string a0, .bool true, .int .u64 a2, .int .u32 a3, .bool a4, .int .i64 a5, .int .u64 a6, .string a7] 37)).alloc (.cells #[] 84)) = W1 at *
            have l1 := LK W1.drew hbA.drew
            have hbZ := (hbA.alloc hbA.size (.cells #[.string { data := #[] }, .string { data := #[] }] 72))
            have l2 := LK (W1.alloc (.cells #[.string { data := #[] }, .string { data := #[] }] 72)).drew hbZ.drew
            have cg2 : (W1.alloc (.cells #[.string { data := #[] }, .string { data := #[] }] 72)).cell? ⟨g, 0, none⟩ = some (.map (some m)) := (H.out.keep hbZ).at
            have cg : W1.cell? ⟨g, 0, none⟩ = some (.map (some m)) := (H.out.keep hbA).at
            have ci : W1.cell? ⟨wr.heap.size, 2, none⟩ = some (.int .u64 a2) := by rw [← hW1]; simp
            have hszz : wr.heap.size < W1.heap.size := by rw [← hW1]; simp; omega
            have ci2 : (W1.alloc (.cells #[.string { data := #[] }, .string { data := #[] }] 72)).cell? ⟨wr.heap.size, 2, none⟩ = some (.int .u64 a2) := (Below.cell (B := W1.heap.size) ((Below.refl _ _).alloc (Nat.le_refl _) _) (by simpa using hszz)).trans ci
            rw [hlv] at l1 l2
            replace hW1 := Lib.hid hW1
            replace hbA := Lib.hid hbA
            replace hbZ := Lib.hid hbZ
            replace hbB := Lib.hid hbB
            replace hlv := Lib.hid hlv
            replace hb := Lib.hid hb
            clear LK
            go_region
            all_goals
              have hbM := (hbA.out.alloc hbA.out.size (.cells #[.string eo, .string en] 72)).drew
              have hbM2 : Below wr.heap.size wr (W1.alloc (.cells #[.string eo, .string en] 72)).drew := (hbB.out.alloc (Nat.le_of_lt hszz) _).drew
              have hsM := hsn.out.keep hbM2
              have hmZ := hsM.map
              replace hsM := Lib.hid hsM
              replace hbM2 := Lib.hid hbM2
              have hsz9 := hbM.size
              replace hbM := Lib.hid hbM
              go_wp2_with (at_mapUpdate; refine wpList_mapUpdate_own _ rfl _ _ _ 83 rfl 23 84 law23 Tryd.underlying83 _ w.heap.size s.length D2 rfl hmZ (by unfold maxLen; omega) _ _ _ rfl rfl (key_of ok2) (.agg []) [] unitElem_mk ?_; intro w9 hown9 hgrow9)
              have hb9 := Lib.hid (hbM.out.grown hgrow9 (by simpa using hsz9) (fun k hk => by cases hk; exact Nat.le_refl _))
              have hs9 := Lib.hid (hsM.out.put hms.out hown9)
              clear hown9 hgrow9
              go_wp2
              go_roundw
              case rel => exact ⟨k + 1, s ++ [a2], _, by simp, by omega, by simp; omega, hsc.out, hs9.out, hb9.out⟩
              case measure => simp [intOf]; omega
          · by_cases he : eo = o
            · subst he
              rw [hU, Bool.true_and, decide_eq_false (by simp), if_neg (by simp)] at hsc
              have hd := str_eq eo
              have hsnA : Sn (wr.alloc (.cells #[.string a0, .bool true, .int .u64 a2, .int .u32 a3, .bool a4, .int .i64 a5, .int .u64 a6, .string a7] 37)) w.heap.size s D2 := hsn.keep ((Below.refl _ _).alloc (Nat.le_refl _) _)
              have hm2 := hsnA.map
              replace hsc := Lib.hid hsc
              replace hsnA := Lib.hid hsnA
              replace hU := Lib.hid hU
              replace hsn := Lib.hid hsn
              replace hms := Lib.hid hms
              go_wp2_with (first | (at_lookup; refine wpList_lookup_own_unit _ rfl _ _ 83 rfl 23 84 law23 Tryd.underlying83 (zero61 _) w.heap.size _ D2 rfl hm2 _ (ky a2) rfl (key_of ok2) ?_; rw [hh2]))
              have LK : ∀ W : World, Below w.heap.size w W → (Instr.lookup 67 (.map (some m)) (.int .u64 a2) true).run Tryd.prog W = .ok (lookV T a2) W := fun W hW => (H.out.keep hW).look ok2
              have hbA := (hb.alloc hb.size (.cells #[.string a0, .bool true, .int .u64 a2, .int .u32 a3, .bool a4, .int .i64 a5, .int .u64 a6, .string a7] 37)).alloc (by have := hb.size; simp; omega) (.cells #[] 84)
              have hbB : Below wr.heap.size wr ((wr.alloc (.cells #[.string a0, .bool true, .int .u64 a2, .int .u32 a3, .bool a4, .int .i64 a5, .int .u64 a6, .string a7] 37)).alloc (.cells #[] 84)) := ((Below.refl _ _).alloc (Nat.le_refl _) _).alloc (by simp) _
              generalize hW1 : ((wr.alloc (.cells #[.string a0, .bool true, .int .u64 a2, .int .u32 a3, .bool a4, .int .i64 a5, .int .u64 a6, .string a7] 37)).alloc (.cells #[] 84)) = W1 at *
              have l1 := LK W1.drew hbA.drew
              have hbZ := (hbA.alloc hbA.size (.cells #[.string { data := #[] }, .string { data := #[] }] 72))
              have l2 := LK (W1.alloc (.cells #[.string { data := #[] }, .string { data := #[] }] 72)).drew hbZ.drew
              have cg2 : (W1.alloc (.cells #[.string { data := #[] }, .string { data := #[] }] 72)).cell? ⟨g, 0, none⟩ = some (.map (some m)) := (H.out.keep hbZ).at
              have cg : W1.cell? ⟨g, 0, none⟩ = some (.map (some m)) := (H.out.keep hbA).at
              have ci : W1.cell? ⟨wr.heap.size, 2, none⟩ = some (.int .u64 a2) := by rw [← hW1]; simp
              have hszz : wr.heap.size < W1.heap.size := by rw [← hW1]; simp; omega
              have ci2 : (W1.alloc (.cells #[.string { data := #[] }, .string { data := #[] }] 72)).cell? ⟨wr.heap.size, 2, none⟩ = some (.int .u64 a2) := (Below.cell (B := W1.heap.size) ((Below.refl _ _).alloc (Nat.le_refl _) _) (by simpa using hszz)).trans ci
              rw [hlv] at l1 l2
              replace hW1 := Lib.hid hW1
              replace hbA := Lib.hid hbA
              replace hbZ := Lib.hid hbZ
              replace hbB := Lib.hid hbB
              replace hlv := Lib.hid hlv
              replace hb := Lib.hid hb
              clear LK
              go_region
              all_goals
                have hbM := (hbA.out.alloc hbA.out.size (.cells #[.string eo, .string en] 72)).drew
                have hbM2 : Below wr.heap.size wr (W1.alloc (.cells #[.string eo, .string en] 72)).drew := (hbB.out.alloc (Nat.le_of_lt hszz) _).drew
                have hsM := hsn.out.keep hbM2
                have hmZ := hsM.map
                replace hsM := Lib.hid hsM
                replace hbM2 := Lib.hid hbM2
                have hsz9 := hbM.size
                replace hbM := Lib.hid hbM
                go_wp2_with (at_mapUpdate; refine wpList_mapUpdate_own _ rfl _ _ _ 83 rfl 23 84 law23 Tryd.underlying83 _ w.heap.size s.length D2 rfl hmZ (by unfold maxLen; omega) _ _ _ rfl rfl (key_of ok2) (.agg []) [] unitElem_mk ?_; intro w9 hown9 hgrow9)
                have hb9 := Lib.hid (hbM.out.grown hgrow9 (by simpa using hsz9) (fun k hk => by cases hk; exact Nat.le_refl _))
                have hs9 := Lib.hid (hsM.out.put hms.out hown9)
                clear hown9 hgrow9
                go_wp2
                go_roundw
                case rel => exact ⟨k + 1, s ++ [a2], _, by simp, by omega, by simp; omega, hsc.out, hs9.out, hb9.out⟩
                case measure => simp [intOf]; omega
            · rw [hU, Bool.true_and, decide_eq_true he, if_pos rfl] at hsc
              have hd := str_ne he
              replace he := Lib.hid he
              have hsnA : Sn (wr.alloc (.cells #[.string a0, .bool true, .int .u64 a2, .int .u32 a3, .bool a4, .int .i64 a5, .int .u64 a6, .string a7] 37)) w.heap.size s D2 := hsn.keep ((Below.refl _ _).alloc (Nat.le_refl _) _)
              have hm2 := hsnA.map
              replace hsc := Lib.hid hsc
              replace hsnA := Lib.hid hsnA
              replace hU := Lib.hid hU
              replace hsn := Lib.hid hsn
              replace hms := Lib.hid hms
              go_wp2_with (first | (at_lookup; refine wpList_lookup_own_unit _ rfl _ _ 83 rfl 23 84 law23 Tryd.underlying83 (zero61 _) w.heap.size _ D2 rfl hm2 _ (ky a2) rfl (key_of ok2) ?_; rw [hh2]))
              have LK : ∀ W : World, Below w.heap.size w W → (Instr.lookup 67 (.map (some m)) (.int .u64 a2) true).run Tryd.prog W = .ok (lookV T a2) W := fun W hW => (H.out.keep hW).look ok2
              have hbA := (hb.alloc hb.size (.cells #[.string a0, .bool true, .int .u64 a2, .int .u32 a3, .bool a4, .int .i64 a5, .int .u64 a6, .string a7] 37)).alloc (by have := hb.size; simp; omega) (.cells #[] 84)
              have hbB : Below wr.heap.size wr ((wr.alloc (.cells #[.string a0, .bool true, .int .u64 a2, .int .u32 a3, .bool a4, .int .i64 a5, .int .u64 a6, .string a7] 37)).alloc (.cells #[] 84)) := ((Below.refl _ _).alloc (Nat.le_refl _) _).alloc (by simp) _
              generalize hW1 : ((wr.alloc (.cells #[.string a0, .bool true, .int .u64 a2, .int .u32 a3, .bool a4, .int .i64 a5, .int .u64 a6, .string a7] 37)).alloc (.cells #[] 84)) = W1 at *
              have l1 := LK W1.drew hbA.drew
              have hbZ := (hbA.alloc hbA.size (.cells #[.string { data := #[] }, .string { data := #[] }] 72))
              have l2 := LK (W1.alloc (.cells #[.string { data := #[] }, .string { data := #[] }] 72)).drew hbZ.drew
              have cg2 : (W1.alloc (.cells #[.string { data := #[] }, .string { data := #[] }] 72)).cell? ⟨g, 0, none⟩ = some (.map (some m)) := (H.out.keep hbZ).at
              have cg : W1.cell? ⟨g, 0, none⟩ = some (.map (some m)) := (H.out.keep hbA).at
              have ci : W1.cell? ⟨wr.heap.size, 2, none⟩ = some (.int .u64 a2) := by rw [← hW1]; simp
              have hszz : wr.heap.size < W1.heap.size := by rw [← hW1]; simp; omega
              have ci2 : (W1.alloc (.cells #[.string { data := #[] }, .string { data := #[] }] 72)).cell? ⟨wr.heap.size, 2, none⟩ = some (.int .u64 a2) := (Below.cell (B := W1.heap.size) ((Below.refl _ _).alloc (Nat.le_refl _) _) (by simpa using hszz)).trans ci
              rw [hlv] at l1 l2
              replace hW1 := Lib.hid hW1
              replace hbA := Lib.hid hbA
              replace hbZ := Lib.hid hbZ
              replace hbB := Lib.hid hbB
              replace hlv := Lib.hid hlv
              replace hb := Lib.hid hb
              clear LK
              go_region
              all_goals
                go_wp2
                go_ret
                refine ⟨?_, ?_⟩
                · have : E = 16 := by rw [hE.out]; unfold tryE; rw [hsc.out]
                  rw [this]; rfl
                · exact (hbA.out.alloc hbA.out.size _).drew
    · obtain rfl : k = l.length := by omega
      rw [List.drop_length, scan] at hsc
      have hm2 := hsn.map
      have hz2 := hsn.size
      have OT := O.out wr hb
      have hno : (notO T o).length ≤ 64 := Nat.le_trans (List.length_filter_le _ _) H.out.le
      have hE' : E = if 64 < (notO T o).length + s.length then 6 else 0 := by rw [hE.out]; unfold tryE; rw [hsc]
      replace OT := Lib.hid OT
      replace hsc := Lib.hid hsc
      replace hz2 := Lib.hid hz2
      replace hE' := Lib.hid hE'
      replace hsn := Lib.hid hsn
      generalize hN : (notO T o).length = nn at *
      replace hN := Lib.hid hN
      replace hb := Lib.hid hb
      by_cases hbig : 64 < nn + s.length
      · have hE2 : E = 6 := by rw [hE'.out, if_pos hbig]
        have hbig' : (64 : Int) < (nn : Int) + (s.length : Int) := by omega
        replace hE2 := Lib.hid hE2
        replace hbig := Lib.hid hbig
        go_wp2_with (first | (go_at_call 36; refine OT.out.mono ?_; rintro e w3 ⟨rfl, b3⟩; have hm3 := (hsn.out.keep b3).map; have B3 := Lib.hid (hb.out.trans (b3.mono hb.out.size)); clear b3) | (at_len; refine wpList_len_own _ rfl _ 83 rfl 23 84 Tryd.underlying83 _ w.heap.size _ D2 rfl hm3 ?_; rw [hz2.out]))
        go_ret
        exact ⟨by rw [hE2.out]; rfl, B3.out⟩
      · have hE2 : E = 0 := by rw [hE'.out, if_neg hbig]
        have hbig' : (nn : Int) + (s.length : Int) ≤ 64 := by omega
        replace hE2 := Lib.hid hE2
        replace hbig := Lib.hid hbig
        go_wp2_with (first | (go_at_call 36; refine OT.out.mono ?_; rintro e w3 ⟨rfl, b3⟩; have hm3 := (hsn.out.keep b3).map; have B3 := Lib.hid (hb.out.trans (b3.mono hb.out.size)); clear b3) | (at_len; refine wpList_len_own _ rfl _ 83 rfl 23 84 Tryd.underlying83 _ w.heap.size _ D2 rfl hm3 ?_; rw [hz2.out]))
        go_ret
        exact ⟨by rw [hE2.out]; rfl, B3.out⟩
end Go.Proofs.YtihblangceblhaaDoor

/-
  LAYER 15: answers: the document's OfAck.
-/
import Derived.Test.YtmpklaokgogigaaDoorSh
import Derived.Test.YtmpklaokgogigaaDoorSn
import Derived.Test.YtmpklaokgogigaaDoorSk
import Derived.Test.YtmpklaokgogigaaDoorUh
namespace Go.Proofs.YtmpklaokgogigaaDoor
set_option linter.unusedSimpArgs false
set_option linter.unusedVariables false
open Go.RowKit

theorem txt_byte (s : ByteArray) (i : Nat) (h : i < s.size) : (txtL s).getD i 0 = (s[i]).toNat := by
  have h' : i < s.data.size := h
  unfold txtL
  simp only [List.getD, List.getElem?_map, Array.getElem?_toList, Array.getElem?_eq_getElem h', Option.map_some, Option.getD_some]
  rfl
set_option maxHeartbeats 4000000 in
set_option maxRecDepth 100000 in
theorem ofack18_any (s : ByteArray) (w : World) (hs : s.size ≤ 140737488351232) : Calls Tryd.prog 43 #[.string s] w (OfAckP (ofAckV (txtL s)) w) := by
  have NB := Lib.hid (rbegin_any s w hs)
  have hl := txtL_length s
  have hb := txt_byte s
  have h256 := txt_lt s
  obtain ⟨l, gl⟩ : ∃ l, l = txtL s := ⟨_, rfl⟩
  rw [← gl] at NB hl hb h256 ⊢
  replace gl := Lib.hid gl
  have hm : (s.size : Int) ≤ 140737488351232 := by omega
  by_cases hn : (numV l).2 = 0
  · obtain ⟨h2, hn1, hn2⟩ := numV_ok hn h256
    by_cases hlen : 2 < s.size ∧ s.size ≤ 10
    · have eV : ofAckV l = if (l.drop 2).all (fun c => codeB c) then ((numV l).1, (l.drop 2).map fun c : Nat => (c : Int), 0) else (0, [], 5) := by
        unfold ofAckV; rw [if_neg (by simpa using hn), if_neg (by omega), if_neg (by omega)]
      unfold Num2 at NB
      rw [hn] at NB
      generalize (numV l).1 = id at *
      generalize ofAckV l = V at *
      replace eV := Lib.hid eV
      replace hn := Lib.hid hn
      obtain ⟨hl3, hl10⟩ := hlen
      have hi3 : 3 ≤ (s.size : Int) := by omega
      have hi10 : (s.size : Int) ≤ 10 := by omega
      have n2 : ((s.size : Int) == 2) = false := by rw [beq_eq_false_iff_ne]; omega
      have h2s : 2 ≤ s.size := by omega
      replace hb := Lib.hid hb
      replace h256 := Lib.hid h256
      replace hl := Lib.hid hl
      obtain ⟨i3, hi, hz0, hz1, hz2⟩ := info_parts info3
      replace hi := Lib.hid hi
      replace hz0 := Lib.hid hz0
      replace hz1 := Lib.hid hz1
      replace hz2 := Lib.hid hz2
      clear h2
      go_enter Tryd.func43, Tryd.ntmps43
      go_wp2_with fail
      refine NB.out.mono ?_
      rintro e w1 ⟨rfl, b1⟩
      replace b1 := Lib.hid b1
      go_wp2_with fail
      go_loopw [7, 8] (fun c i wr => ∃ j : Nat, i = .int .i64 (j : Int) ∧ 2 ≤ j ∧ j ≤ s.size ∧ (∀ g ∈ (l.drop 2).take (j - 2), codeB (g : Nat) = true) ∧ wr.ownsRow w.heap.size 3 1 c (j - 2) (il (((l.drop 2).take (j - 2)).map fun c : Nat => (c : Int))) ∧ Below w.heap.size w wr) (fun _ i _ => s.size - (intOf i).toNat)
      case atStart => exact ⟨2, rfl, by omega, by omega, by simp, by simpa [il] using World.ownsRow_nil _ _ _ _, b1.out⟩
      case round =>
        obtain ⟨j, rfl, hj1, hj2, hall, hown, hb1⟩ := hrel
        replace hall := Lib.hid hall
        replace hb1 := Lib.hid hb1
        have hdl : (l.drop 2).length = s.size - 2 := by rw [List.length_drop, hl.out]
        by_cases hend : j = s.size
        · subst hend
          have htk : (l.drop 2).take (s.size - 2) = l.drop 2 := by rw [← hdl, List.take_length]
          rw [htk] at hown hall
          have hA : (l.drop 2).all (fun c => codeB c) = true := List.all_eq_true.2 hall.out
          have eV' := eV.out
          rw [if_pos hA] at eV'
          have hI : IntsAt wr u7 ((l.drop 2).map fun c : Nat => (c : Int)) ∧ Fresh w.heap.size u7 := ⟨IntsAt.of_own (by rw [List.length_map, hdl]; exact hown) (by rw [List.length_map, hdl]; omega), fresh_own hown (Nat.le_refl _)⟩
          replace eV' := Lib.hid eV'
          replace hI := Lib.hid hI
          replace hA := Lib.hid hA
          replace hdl := Lib.hid hdl
          clear hown htk hall
          go_wp2_with fail
          go_ret3
          exact ⟨_, by rw [eV'.out]; rfl, by rw [eV'.out]; exact hI.out, hb1.out⟩
        have jlt : j < s.size := by omega
        have jlt' : (j : Int) < (s.size : Int) := by omega
        have hkd : j - 2 < (l.drop 2).length := by omega
        have hgd : (l.drop 2).getD (j - 2) 0 = l.getD j 0 := by simp [List.getD, List.getElem?_drop, show 2 + (j - 2) = j by omega]
        have hc256 : l.getD j 0 < 256 := h256.out _ (by have := hl.out; simp [List.getD, show j < l.length by omega])
        have hbj := hb.out j jlt
        rw [hbj] at hgd hc256
        replace hbj := Lib.hid hbj
        replace hdl := Lib.hid hdl
        obtain ⟨c, gc⟩ : ∃ c, c = (s[j]'jlt).toNat := ⟨_, rfl⟩
        rw [← gc] at hgd hc256
        have CD := Lib.hid fun w => code_any 74 (.inr rfl) (c : Int) w
        rw [gc] at CD
        by_cases hco : codeB (c : Nat) = true
        · obtain ⟨hall2, hj⟩ := drop_all hall.out c hkd hgd hco
          rw [← gc, hco, gc] at CD
          have hjj : (l.drop 2).take (j - 2 + 1) = (l.drop 2).take (j + 1 - 2) := by rw [show j - 2 + 1 = j + 1 - 2 by omega]
          rw [hjj] at hall2 hj
          have hj3 : il (((l.drop 2).take (j + 1 - 2)).map fun c : Nat => (c : Int)) = il (((l.drop 2).take (j - 2)).map fun c : Nat => (c : Int)) ++ [.int .i64 (((s[j]'jlt).toNat : Nat) : Int)] := by rw [hj, ← gc]; simp [il]
          have hbd : ((s[j]'jlt).toNat : Int) < 256 := by rw [← gc]; omega
          replace gc := Lib.hid gc
          replace hj3 := Lib.hid hj3
          replace hall2 := Lib.hid hall2
          replace hj := Lib.hid hj
          replace hjj := Lib.hid hjj
          replace hco := Lib.hid hco
          replace hgd := Lib.hid hgd
          have own0 := Lib.hid hown
          clear hown
          have zr : w.heap.size ≤ wr.heap.size := hb1.out.size
          go_wp2_with (first | (go_at_call 74; refine (CD.out _).mono ?_; rintro e w' ⟨rfl, rfl⟩) | (at_builtin; (refine wpList_append_own_at _ rfl (.tmp 36) (.tmp 41) 31 rfl w.heap.size 3 i3 (.int .i64 0) 1 8 Tryd.underlying31 hi.out hz0.out hz1.out hz2.out rfl (by decide) u7 (j - 2) _ rfl (own0.out.alloc _) ⟨wr.heap.size, 0, none⟩ 1 1 [.int .i64 (((s[j]'jlt).toNat : Nat) : Int)] rfl rfl (cell_one_new _ _ _) (by intro u hu; simp at hu; subst hu; rfl) (by unfold maxLen; omega) (by omega) (by simp; omega) ?_); intro v4 w4 o4 g4 n4 nb4; clear n4 nb4; have B4 := Lib.hid ((hb1.out.trans ((ext_alloc wr (.cells #[.int .i64 (((s[j]'jlt).toNat : Nat) : Int)] 3)).mono hb1.out.size)).trans (grown_ext (own0.out.alloc _) g4 (by have := hb1.out.size; simp; omega))); clear g4; replace o4 := Lib.hid o4))
          go_roundw
          case rel => exact ⟨j + 1, by simp, by omega, by omega, hall2.out, by rw [hj3.out, show j + 1 - 2 = j - 2 + 1 by omega]; exact o4.out, B4.out⟩
          case measure => simp [intOf]; omega
        · have hco' : codeB (c : Nat) = false := by simpa using hco
          have hmem : c ∈ l.drop 2 := by rw [← hgd]; simp only [List.getD, List.getElem?_eq_getElem hkd, Option.getD_some]; exact List.getElem_mem _
          have hA : (l.drop 2).all (fun c => codeB c) = false := by
            rw [List.all_eq_false]; exact ⟨c, hmem, by simpa using hco⟩
          have eV' := eV.out
          rw [hA, if_neg (by simp)] at eV'
          rw [← gc, hco', gc] at CD
          have hbd : ((s[j]'jlt).toNat : Int) < 256 := by rw [← gc]; omega
          replace gc := Lib.hid gc
          replace eV' := Lib.hid eV'
          replace hA := Lib.hid hA
          replace hco := Lib.hid hco
          replace hco' := Lib.hid hco'
          replace hgd := Lib.hid hgd
          clear hown hmem
          go_wp2_with (go_at_call 74; refine (CD.out _).mono ?_; rintro e w' ⟨rfl, rfl⟩)
          go_ret3
          exact ⟨_, by rw [eV'.out]; rfl, by rw [eV'.out]; exact ⟨ints_nil _, fresh_nil _⟩, hb1.out⟩
    · have hV : ofAckV l = (0, [], if s.size = 2 then 4 else 6) := by
        unfold ofAckV
        rw [if_neg (show ¬ (numV l).2 ≠ 0 by simpa using hn), hl]
        by_cases h22 : s.size = 2
        · rw [if_pos h22, if_pos h22]
        · rw [if_neg h22, if_neg h22, if_pos (by omega)]
      rw [hV]
      unfold Num2 at NB
      rw [hn] at NB
      generalize (numV l).1 = id at *
      replace hn := Lib.hid hn
      replace hb := Lib.hid hb
      replace h256 := Lib.hid h256
      replace hV := Lib.hid hV
      have h2s : 2 ≤ (s.size : Int) := by omega
      replace hl := Lib.hid hl
      by_cases h22 : s.size = 2
      · rw [if_pos h22]
        have n2 : ((s.size : Int) == 2) = true := by simpa using by omega
        replace h22 := Lib.hid h22
        clear hlen
        go_enter Tryd.func43, Tryd.ntmps43
        go_wp2_with fail
        refine NB.out.mono ?_
        rintro e w1 ⟨rfl, b1⟩
        replace b1 := Lib.hid b1
        go_wp2_with fail
        go_ret3
        exact ⟨_, rfl, ⟨ints_nil _, fresh_nil _⟩, b1.out⟩
      · rw [if_neg h22]
        have n2 : ((s.size : Int) == 2) = false := by rw [beq_eq_false_iff_ne]; omega
        have n10 : 10 < (s.size : Int) := by omega
        replace h22 := Lib.hid h22
        clear hlen
        go_enter Tryd.func43, Tryd.ntmps43
        go_wp2_with fail
        refine NB.out.mono ?_
        rintro e w1 ⟨rfl, b1⟩
        replace b1 := Lib.hid b1
        go_wp2_with fail
        go_ret3
        exact ⟨_, rfl, ⟨ints_nil _, fresh_nil _⟩, b1.out⟩
  · have eV : ofAckV l = (0, [], (numV l).2) := by unfold ofAckV; rw [if_pos hn]
    rw [eV]
    unfold Num2 at NB
    have hd2 : ((numV l).2 != 0) = true := by simpa using hn
    generalize (numV l).2 = E at *
    generalize (numV l).1 = id at *
    replace eV := Lib.hid eV
    replace hn := Lib.hid hn
    replace hb := Lib.hid hb
    replace h256 := Lib.hid h256
    replace hl := Lib.hid hl
    go_enter Tryd.func43, Tryd.ntmps43
    go_wp2_with fail
    refine NB.out.mono ?_
    rintro e w1 ⟨rfl, b1⟩
    replace b1 := Lib.hid b1
    go_wp2_with fail
    go_ret3
    exact ⟨_, rfl, ⟨ints_nil _, fresh_nil _⟩, b1.out⟩
end Go.Proofs.YtmpklaokgogigaaDoor

/-
  LAYER 15: the document's Of.
-/
namespace Go.Proofs.YtmpklaokgogigaaDoor
set_option linter.unusedSimpArgs false
set_option linter.unusedVariables false
open Go.RowKit

theorem cell_two_at (w : World) (g : Nat) (x y : Value) (t : TypeId) (hg : g = w.heap.size) : ∀ j u, [x, y][j]? = some u → (w.alloc (.cells #[x, y] t)).cell? ((⟨g, 0, none⟩ : Addr).add j) = some u := by
  subst hg; exact cell_two_new w x y t
theorem own_fis_step {acc : List Fi} {f : Fi} : fisC (acc ++ [f]) = fisC acc ++ [.string f.t, .int .i64 f.q] := by simp [fisC, Fi.cells]
theorem own_below2 {w w' : World} {B e size n : Nat} {v : Value} {xs : List Value} (h : w.ownsRow B e size v n xs) (hb : Below w.heap.size w w') : w'.ownsRow B e size v n xs := by
  refine ⟨h.1, h.2.imp id ?_⟩
  rintro ⟨g, cap, cur, hv, hg, hcur, rest⟩
  exact ⟨g, cap, cur, hv, hg, by rw [hb.block g (Array.getElem?_eq_some_iff.1 hcur).1]; exact hcur, rest⟩
theorem grown2 {B e size n : Nat} {w w' : World} {v : Value} {xs : List Value} (hown : w.ownsRow B e size v n xs) (hg : w.grownBy w' v.ownBlock) (hB : B ≤ w.heap.size) : Below B w w' :=
  (Below.refl _ _).grown hg hB (fun k hk => (hown.lt k hk).1)
set_option maxHeartbeats 4000000 in
set_option maxRecDepth 100000 in
theorem of13_any (s : ByteArray) (ends : Bool) (w : World) (hs : s.size ≤ 140737488351232) : Calls Tryd.prog 42 #[.string s, .bool ends] w (OfP (ofV (txtL s) ends) w) := by
  have NB := Lib.hid (rbegin_any s w hs)
  have hbytes := fun w => bytes_of s w
  have hl := txtL_length s
  have h256 := txt_lt s
  generalize txtL s = l at *
  have hl' : l.length ≤ 140737488351232 := by omega
  have hm : (l.length : Int) ≤ 140737488351232 := by omega
  replace hl := Lib.hid hl
  unfold Num2 at NB
  by_cases hn : (numV l).2 = 0
  · rw [hn] at NB
    have eV : ofV l ends = if (ofW l ends).2 ≠ 0 then (0, [], (ofW l ends).2) else ((numV l).1, (ofW l ends).1, 0) := by unfold ofV; rw [if_neg (by simpa using hn)]
    generalize (numV l).1 = id at *
    generalize ofV l ends = V at *
    have eW : ofW l ends = seqR (seqL l ends (l.length + 1) 2) 8 [] := rfl
    have h2 : 2 ≤ l.length := (numV_ok hn h256).1
    generalize ofW l ends = OW at *
    replace eV := Lib.hid eV
    replace eW := Lib.hid eW
    replace hn := Lib.hid hn
    have hbyte : ∀ j, l.getD j 0 < 256 := fun j => by
      rw [List.getD_eq_getElem?_getD]
      cases e : l[j]? with
      | none => simp
      | some x => exact h256 x (List.mem_of_getElem? e)
    replace hbyte := Lib.hid hbyte
    replace h256 := Lib.hid h256
    obtain ⟨i0, hi, hz0, hz1, hz2⟩ := info_parts info47
    replace hi := Lib.hid hi
    replace hz0 := Lib.hid hz0
    replace hz1 := Lib.hid hz1
    replace hz2 := Lib.hid hz2
    replace hbytes := Lib.hid hbytes
    go_enter Tryd.func42, Tryd.ntmps42
    go_wp2_with fail
    refine NB.out.mono ?_
    rintro e w0 ⟨rfl, b0⟩
    obtain ⟨v, w1, hconv, a1, b1⟩ := hbytes.out w0
    have A1 := Lib.hid a1
    have hA : ∀ wr, Below w1.heap.size w1 wr → BytesAt wr v l := fun wr h => a1.keep h (Nat.le_refl _)
    obtain ⟨a, cap, rfl, -, hcs⟩ := a1
    have B1 := Lib.hid (ext_trans b0 b1)
    replace hA := Lib.hid hA
    clear b0 b1
    go_wp2_with fail
    go_loopw [10, 11] (fun c i wr => ∃ (k f : Nat) (acc : List Fi), i = .int .i64 (k : Int) ∧ k ≤ l.length ∧ l.length - k ≤ f ∧ acc.length ≤ 8 ∧ OW = seqR (seqL l ends f k) (8 - acc.length) acc ∧ wr.ownsRow w1.heap.size 56 2 c acc.length (fisC acc) ∧ Below w1.heap.size w1 wr) (fun _ i _ => l.length - (intOf i).toNat)
    case atStart => exact ⟨2, l.length + 1, [], rfl, h2, by omega, by simp, eW.out, by simpa [fisC] using World.ownsRow_nil _ _ _ _, Below.refl _ _⟩
    case round =>
      obtain ⟨k, f, acc, rfl, hk, hf, h8, hOW, hown, hbw⟩ := hrel
      obtain ⟨va, vc, rfl⟩ := own_slice hown
      have BW := Lib.hid (B1.out.trans (hbw.mono B1.out.size))
      have zr : w1.heap.size ≤ wr.heap.size := hbw.size
      replace hbw := Lib.hid hbw
      by_cases hlt : k < l.length
      · have hlt' : (k : Int) < l.length := by omega
        obtain ⟨f', rfl, hst⟩ := seqL_step (ends := ends) hlt hf
        rw [hst] at hOW
        by_cases h88 : acc.length = 8
        · have h88' : 8 ≤ (acc.length : Int) := by omega
          rw [h88] at hOW
          have hO : OW = ([], 6) := by rw [hOW]; rfl
          have eV' := eV.out
          rw [hO, if_pos (by decide)] at eV'
          replace eV' := Lib.hid eV'
          replace hO := Lib.hid hO
          replace hOW := Lib.hid hOW
          replace hst := Lib.hid hst
          replace h88 := Lib.hid h88
          clear hown
          go_wp2_with fail
          go_ret3
          exact ⟨_, by rw [eV'.out]; rfl, by rw [eV'.out]; exact ⟨fis_nil _, fresh_nil _⟩, BW.out⟩
        · have h87 : (acc.length : Int) < 8 := by omega
          obtain ⟨m8, e8⟩ : ∃ m8, 8 - acc.length = m8 + 1 := ⟨7 - acc.length, by omega⟩
          rw [e8, seqR] at hOW
          have GE := Lib.hid (rget_any (.slice a l.length cap) l k wr (hA.out wr hbw.out) h256.out (by omega) (by omega))
          have EN := @getV_end l k
          have FE : filtV l k ends = (if (getV l k).2.2 ≠ 0 then (noF, 0, (getV l k).2.2) else if ends then (⟨(getV l k).1, 0⟩, (getV l k).2.1.toNat, 0) else if (getV l k).2.1.toNat = l.length then (noF, 0, 2) else if 2 < l.getD (getV l k).2.1.toNat 0 then (noF, 0, 5) else (⟨(getV l k).1, (l.getD (getV l k).2.1.toNat 0 : Nat)⟩, (getV l k).2.1.toNat + 1, 0)) := rfl
          generalize filtV l k ends = FV at *
          generalize getV l k = r at *
          obtain ⟨S, y, x⟩ := r
          unfold GetPost at GE
          simp only at GE EN FE
          replace hst := Lib.hid hst
          by_cases hx : x = 0
          · obtain ⟨m, rfl, hm1, hm2⟩ := EN hx h256.out
            subst hx
            rw [if_neg (by simp), Int.toNat_natCast] at FE
            have hm3 : (m : Int) ≤ l.length := by omega
            have hm4 : (k : Int) + 2 ≤ m := by omega
            cases ends
            · by_cases he : m = l.length
              · have hd : (l.length : Int) ≤ m := by omega
                rw [if_neg (by simp), if_pos he] at FE
                subst FE
                rw [if_pos (by decide)] at hOW
                have eV' := eV.out
                rw [hOW, if_pos (by decide)] at eV'
                replace eV' := Lib.hid eV'
                replace hOW := Lib.hid hOW
                replace he := Lib.hid he
                replace e8 := Lib.hid e8
                clear hown EN
                go_wp2_with (go_at_call 69; refine GE.out.mono ?_; rintro e w3 ⟨rfl, b3⟩; have B3 := Lib.hid (ext_trans BW.out b3); clear b3)
                go_ret3
                exact ⟨_, by rw [eV'.out]; rfl, by rw [eV'.out]; exact ⟨fis_nil _, fresh_nil _⟩, B3.out.alloc B3.out.size _⟩
              · have hlt2 : m < l.length := by omega
                have hlt2' : (m : Int) < l.length := by omega
                rw [if_neg (by simp), if_neg he] at FE
                obtain ⟨b, o, rfl, hbl⟩ : ∃ b o, a = some ⟨b, o, none⟩ ∧ b < w1.heap.size := by
                  rcases hcs with rfl | ⟨b, o, rfl, hbl, -⟩
                  · simp at hlt2
                  · exact ⟨b, o, rfl, hbl⟩
                have BY := Lib.hid fun w3 (h3 : Below wr.heap.size wr w3) => byte_at A1.out hlt2 (hbw.out.trans ((h3.mono zr)))
                have hc := hbyte.out m
                generalize l.getD m 0 = c at *
                have hc' : (c : Int) < 256 := by omega
                replace he := Lib.hid he
                by_cases hc2 : 2 < c
                · have hc2' : 2 < (c : Int) := by omega
                  rw [if_pos hc2] at FE
                  subst FE
                  rw [if_pos (by decide)] at hOW
                  have eV' := eV.out
                  rw [hOW, if_pos (by decide)] at eV'
                  replace eV' := Lib.hid eV'
                  replace hOW := Lib.hid hOW
                  replace e8 := Lib.hid e8
                  clear hown EN
                  go_wp2_with (go_at_call 69; refine GE.out.mono ?_; rintro e w3 ⟨rfl, b3⟩; have by0 := BY.out _ (b3.trans (Below.refl _ _)); have by1 := BY.out _ (b3.alloc b3.size (.cells #[.string S, .int .i64 0] 56)); have B3 := Lib.hid (ext_trans BW.out b3); clear b3)
                  go_ret3
                  exact ⟨_, by rw [eV'.out]; rfl, by rw [eV'.out]; exact ⟨fis_nil _, fresh_nil _⟩, B3.out.alloc B3.out.size _⟩
                · have hc2' : (c : Int) ≤ 2 := by omega
                  rw [if_neg hc2] at FE
                  subst FE
                  rw [if_neg (by simp)] at hOW
                  replace hOW := Lib.hid hOW
                  have e8' : m8 = 8 - (acc.length + 1) := by omega
                  replace e8' := Lib.hid e8'
                  replace e8 := Lib.hid e8
                  replace hown := Lib.hid hown
                  clear EN
                  go_wp2_with (first | (go_at_call 69; refine GE.out.mono ?_; rintro e w3 ⟨rfl, b3⟩; have by0 := BY.out _ (b3.trans (Below.refl _ _)); have by1 := BY.out _ (b3.alloc b3.size (.cells #[.string S, .int .i64 0] 56)); have o3 := Lib.hid (own_below2 hown.out b3); have z3 : w1.heap.size ≤ w3.heap.size := Nat.le_trans zr b3.size; have B3 := Lib.hid (hbw.out.trans (b3.mono zr)); clear b3) | (at_builtin; (refine wpList_append_own_at _ rfl (.tmp 65) (.tmp 67) 30 rfl w1.heap.size 56 i0 _ 2 24 Tryd.underlying30 hi.out hz0.out hz1.out hz2.out rfl (by decide) (.slice va acc.length vc) acc.length _ rfl ((o3.out.alloc _).alloc _) ⟨w3.heap.size + 1, 0, none⟩ 1 1 [.string S, .int .i64 (c : Nat)] rfl rfl (cell_two_at _ _ _ _ _ (by simp)) (by intro u hu; simp at hu; rcases hu with rfl | rfl <;> rfl) (by unfold maxLen; omega) (by omega) (by simp; omega) ?_); intro v4 w4 o4 g4 n4 nb4; clear n4 nb4; have B4 := Lib.hid (((B3.out.alloc z3 (.cells #[.string S, .int .i64 (c : Nat)] 56)).alloc (by simp; omega) (.cells #[.string S, .int .i64 (c : Nat)] 56)).trans (grown2 ((o3.out.alloc _).alloc _) g4 (by simp; omega))); clear g4; replace o4 := Lib.hid o4))
                  go_roundw
                  case rel => exact ⟨m + 1, f', acc ++ [⟨S, (c : Nat)⟩], by simp, by omega, by omega, by simp; omega, by rw [List.length_append, List.length_singleton, ← e8'.out]; exact hOW.out, by rw [own_fis_step, List.length_append, List.length_singleton]; exact o4.out, B4.out⟩
                  case measure => simp [intOf]; omega
            · rw [if_pos rfl] at FE
              subst FE
              rw [if_neg (by simp)] at hOW
              replace hOW := Lib.hid hOW
              have e8' : m8 = 8 - (acc.length + 1) := by omega
              replace e8' := Lib.hid e8'
              replace e8 := Lib.hid e8
              replace hown := Lib.hid hown
              clear EN
              go_wp2_with (first | (go_at_call 69; refine GE.out.mono ?_; rintro e w3 ⟨rfl, b3⟩; have o3 := Lib.hid (own_below2 hown.out b3); have z3 : w1.heap.size ≤ w3.heap.size := Nat.le_trans zr b3.size; have B3 := Lib.hid (hbw.out.trans (b3.mono zr)); clear b3) | (at_builtin; (refine wpList_append_own_at _ rfl (.tmp 65) (.tmp 67) 30 rfl w1.heap.size 56 i0 _ 2 24 Tryd.underlying30 hi.out hz0.out hz1.out hz2.out rfl (by decide) (.slice va acc.length vc) acc.length _ rfl ((o3.out.alloc _).alloc _) ⟨w3.heap.size + 1, 0, none⟩ 1 1 [.string S, .int .i64 0] rfl rfl (cell_two_at _ _ _ _ _ (by simp)) (by intro u hu; simp at hu; rcases hu with rfl | rfl <;> rfl) (by unfold maxLen; omega) (by omega) (by simp; omega) ?_); intro v4 w4 o4 g4 n4 nb4; clear n4 nb4; have B4 := Lib.hid (((B3.out.alloc z3 (.cells #[.string S, .int .i64 0] 56)).alloc (by simp; omega) (.cells #[.string S, .int .i64 0] 56)).trans (grown2 ((o3.out.alloc _).alloc _) g4 (by simp; omega))); clear g4; replace o4 := Lib.hid o4))
              go_roundw
              case rel => exact ⟨m, f', acc ++ [⟨S, 0⟩], rfl, by omega, by omega, by simp; omega, by rw [List.length_append, List.length_singleton, ← e8'.out]; exact hOW.out, by rw [own_fis_step, List.length_append, List.length_singleton]; exact o4.out, B4.out⟩
              case measure => simp [intOf]; omega
          · rw [if_pos hx] at FE
            subst FE
            have hx' : (x != 0) = true := by simpa using hx
            rw [if_pos hx] at hOW
            have eV' := eV.out
            rw [hOW, if_pos hx] at eV'
            replace eV' := Lib.hid eV'
            replace hOW := Lib.hid hOW
            replace hx := Lib.hid hx
            replace e8 := Lib.hid e8
            clear hown EN
            go_wp2_with (go_at_call 69; refine GE.out.mono ?_; rintro e w3 ⟨rfl, b3⟩; have B3 := Lib.hid (ext_trans BW.out b3); clear b3)
            go_ret3
            exact ⟨_, by rw [eV'.out]; rfl, by rw [eV'.out]; exact ⟨fis_nil _, fresh_nil _⟩, B3.out⟩
      · have hge : (l.length : Int) ≤ k := by omega
        rw [seqL_end (by omega)] at hOW
        unfold seqR at hOW
        have eV' := eV.out
        by_cases h0 : acc = []
        · subst h0
          rw [hOW, if_pos rfl, if_pos (by decide)] at eV'
          replace eV' := Lib.hid eV'
          replace hOW := Lib.hid hOW
          replace hlt := Lib.hid hlt
          clear hown
          go_wp2_with fail
          go_ret3
          exact ⟨_, by rw [eV'.out]; rfl, by rw [eV'.out]; exact ⟨fis_nil _, fresh_nil _⟩, BW.out⟩
        · rw [hOW, if_neg h0, if_neg (by simp)] at eV'
          have hpos : 0 < acc.length := List.length_pos_iff.2 h0
          have hd : ((acc.length : Int) == 0) = false := by rw [beq_eq_false_iff_ne]; omega
          have hF := Lib.hid (⟨FisAt.of_own hown (by omega), fresh_own hown B1.out.size⟩ : _ ∧ Fresh w.heap.size _)
          replace eV' := Lib.hid eV'
          replace hOW := Lib.hid hOW
          replace h0 := Lib.hid h0
          replace hlt := Lib.hid hlt
          clear hown
          go_wp2_with fail
          go_ret3
          exact ⟨_, by rw [eV'.out]; rfl, by rw [eV'.out]; exact hF.out, BW.out⟩
  · have eV : ofV l ends = (0, [], (numV l).2) := by unfold ofV; rw [if_pos hn]
    rw [eV]
    have hd2 : ((numV l).2 != 0) = true := by simpa using hn
    generalize (numV l).2 = E at *
    generalize (numV l).1 = id at *
    replace eV := Lib.hid eV
    replace hn := Lib.hid hn
    replace h256 := Lib.hid h256
    replace hbytes := Lib.hid hbytes
    go_enter Tryd.func42, Tryd.ntmps42
    go_wp2_with fail
    refine NB.out.mono ?_
    rintro e w1 ⟨rfl, b1⟩
    replace b1 := Lib.hid b1
    go_wp2_with fail
    go_ret3
    exact ⟨_, rfl, ⟨fis_nil _, fresh_nil _⟩, b1.out⟩
end Go.Proofs.YtmpklaokgogigaaDoor

/-
  LAYER 15: the law's own: are two lists of filters one?
-/
namespace Go.Proofs.YtmpklaokgogigaaDoor
set_option linter.unusedSimpArgs false
set_option linter.unusedVariables false
open Go.RowKit

end Go.Proofs.YtmpklaokgogigaaDoor

/-
  LAYER 15: the law's own: are two lists of numbers one? what was put is told again.
-/
namespace Go.Proofs.YtmpklaokgogigaaDoor
set_option linter.unusedSimpArgs false
set_option linter.unusedVariables false
open Go.RowKit

theorem txtL_strB {L : List Nat} (h : ∀ x ∈ L, x < 256) : txtL (strB L) = L := by
  unfold txtL strB
  simp only [List.map_map]
  conv => rhs; rw [← List.map_id L]
  apply List.map_congr_left
  intro x hx
  have := h x hx
  simp; omega
/-- What was put is told again. -/
theorem ack_back {id : Int} {l : List Int} (h : ackE id l = 0) : ofAckV (txtL (strB (ackL id l))) = (id, l, 0) ∧ (strB (ackL id l)).size ≤ 10 := by
  have hB : beginE id l.length = 0 := by
    unfold ackE at h
    by_cases hB : beginE id l.length ≠ 0
    · rw [if_pos hB] at h; exact absurd h hB
    · exact Decidable.not_not.1 hB
  obtain ⟨h8, h0, h1, h2⟩ := begin_zero (by omega) hB
  have hall : ∀ c ∈ l, codeB c = true := by
    unfold ackE at h
    rw [if_neg (by simpa using hB)] at h
    by_cases ha : l.all codeB = true
    · exact List.all_eq_true.1 ha
    · rw [if_neg ha] at h; cases h
  have eL : ackL id l = [(id / 256).toNat, (id % 256).toNat] ++ l.map Int.toNat := by unfold ackL; rw [if_pos h]
  have hlt : ∀ x ∈ ackL id l, x < 256 := by
    rw [eL]; intro x hx
    simp only [List.cons_append, List.nil_append, List.mem_cons, List.mem_map] at hx
    rcases hx with rfl | rfl | ⟨c, hc, rfl⟩
    · omega
    · omega
    · have := codeB_lo (hall c hc); omega
  rw [strB_size, txtL_strB hlt, eL]
  have hlen : ([(id / 256).toNat, (id % 256).toNat] ++ l.map Int.toNat).length = 2 + l.length := by simp; omega
  refine ⟨?_, by rw [hlen]; omega⟩
  have hnum : numV ([(id / 256).toNat, (id % 256).toNat] ++ l.map Int.toNat) = (id, 0) := by
    unfold numV
    rw [if_neg (by rw [hlen]; omega)]
    have g0 : ([(id / 256).toNat, (id % 256).toNat] ++ l.map Int.toNat).getD 0 0 = (id / 256).toNat := rfl
    have g1 : ([(id / 256).toNat, (id % 256).toNat] ++ l.map Int.toNat).getD 1 0 = (id % 256).toNat := rfl
    rw [g0, g1, if_neg (by omega)]
    have : ((256 * (id / 256).toNat + (id % 256).toNat : Nat) : Int) = id := by omega
    rw [this]
  have hd : ([(id / 256).toNat, (id % 256).toNat] ++ l.map Int.toNat).drop 2 = l.map Int.toNat := rfl
  unfold ofAckV
  rw [hnum, if_neg (by simp), hlen, if_neg (by omega), if_neg (by omega), hd]
  have hm : ∀ c ∈ l, ((c.toNat : Nat) : Int) = c := fun c hc => by have := codeB_lo (hall c hc); omega
  have ha : (l.map Int.toNat).all (fun c => codeB (c : Nat)) = true := by
    rw [List.all_eq_true]; intro x hx
    obtain ⟨c, hc, rfl⟩ := List.mem_map.1 hx
    rw [hm c hc]; exact hall c hc
  rw [if_pos ha, List.map_map]
  have : l.map ((fun c : Nat => (c : Int)) ∘ Int.toNat) = l := by
    conv => rhs; rw [← List.map_id l]
    exact List.map_congr_left fun c hc => hm c hc
  rw [this]
theorem ack_small (id : Int) (l : List Int) : (strB (ackL id l)).size ≤ 10 := by
  by_cases h : ackE id l = 0
  · exact (ack_back h).2
  · have : ackL id l = [] := by unfold ackL; rw [if_neg h]
    rw [this, strB_size]; simp
end Go.Proofs.YtmpklaokgogigaaDoor

/-
  LAYER 15: there and back, plain.
-/
namespace Go.Proofs.YtmpklaokgogigaaDoor
set_option linter.unusedSimpArgs false
set_option linter.unusedVariables false
open Go.RowKit

/-- What is told again of a filter. -/
def bk (ends : Bool) (f : Fi) : Fi := if ends then ⟨f.t, 0⟩ else f
theorem fiE_zero {ends : Bool} {f : Fi} (h : fiE ends f = 0) : f.t.size ≤ 65535 ∧ rightB f.t = true ∧ (ends = false → 0 ≤ f.q ∧ f.q ≤ 2) := by
  unfold fiE at h
  by_cases a : ends = false ∧ (f.q < 0 ∨ 2 < f.q)
  · rw [if_pos a] at h; cases h
  rw [if_neg a] at h
  unfold txtE at h
  by_cases b : 65535 < f.t.size
  · rw [if_pos b] at h; cases h
  rw [if_neg b] at h
  refine ⟨by omega, ?_, fun e => ?_⟩
  · cases hr : rightB f.t
    · rw [hr] at h; simp at h
    · rfl
  · by_cases z : f.q < 0 ∨ 2 < f.q
    · exact absurd ⟨e, z⟩ a
    · omega
theorem fisL_lt {ends : Bool} {l : List Fi} (h : ∀ f ∈ l, fiE ends f = 0) : ∀ x ∈ fisL ends l, x < 256 := by
  intro x hx
  simp only [fisL, List.mem_flatMap] at hx
  obtain ⟨f, hf, hx⟩ := hx
  obtain ⟨h1, h2, h3⟩ := fiE_zero (h f hf)
  unfold fiL at hx
  rcases List.mem_append.1 hx with hx | hx
  · unfold rawL at hx
    rcases List.mem_append.1 hx with hx | hx
    · simp only [List.mem_cons, List.not_mem_nil, or_false] at hx
      rcases hx with rfl | rfl <;> omega
    · exact txt_lt _ _ hx
  · cases ends
    · simp at hx; have := h3 rfl; omega
    · simp at hx
theorem seq_back (ends : Bool) : ∀ (r : List Fi) (P : List Nat) (n : Nat), (∀ f ∈ r, fiE ends f = 0) → (P ++ fisL ends r).length - P.length ≤ n → seqL (P ++ fisL ends r) ends n P.length = r.map fun f => (bk ends f, 0) := by
  intro r
  induction r with
  | nil => intro P n _ _; exact seqL_end (by simp [fisL])
  | cons f r ih =>
    intro P n hr hn
    obtain ⟨h1, h2, h3⟩ := fiE_zero (hr f (by simp))
    have hr' : ∀ g ∈ r, fiE ends g = 0 := fun g hg => hr g (List.mem_cons_of_mem _ hg)
    have eL : P ++ fisL ends (f :: r) = (P ++ fiL ends f) ++ fisL ends r := by simp [fisL]
    have hfl : (fiL ends f).length = 2 + f.t.size + if ends then 0 else 1 := by unfold fiL; cases ends <;> simp [rawL_length]
    have hlt : P.length < (P ++ fisL ends (f :: r)).length := by rw [eL]; simp; omega
    obtain ⟨m, rfl, hst⟩ := seqL_step (ends := ends) hlt hn
    rw [hst]
    have hF : filtV (P ++ fisL ends (f :: r)) P.length ends = (bk ends f, (P ++ fiL ends f).length, 0) := by
      have eM : P ++ fisL ends (f :: r) = P ++ rawL f.t ++ ((if ends then [] else [f.q.toNat]) ++ fisL ends r) := by simp [fisL, fiL]
      have eg := get_mid P ((if ends then [] else [f.q.toNat]) ++ fisL ends r) f.t h1
      rw [if_pos h2] at eg
      unfold filtV
      rw [eM, eg]
      simp only [ne_eq, not_true, if_false, Int.toNat_natCast]
      cases ends
      · obtain ⟨q1, q2⟩ := h3 rfl
        simp only [Bool.false_eq_true, if_false]
        have hk : (P ++ rawL f.t ++ ([f.q.toNat] ++ fisL false r)).getD (P.length + (2 + f.t.size)) 0 = f.q.toNat := by
          have hlen : (P ++ rawL f.t).length = P.length + (2 + f.t.size) := by rw [List.length_append, rawL_length]
          rw [← hlen]
          simp [List.getD]
        rw [if_neg (by simp [rawL_length] <;> omega), hk, if_neg (by omega)]
        have hq : ((f.q.toNat : Nat) : Int) = f.q := by omega
        rw [hq]
        simp only [bk, List.length_append, hfl]
        simp <;> omega
      · simp only [if_true]
        simp only [bk, List.length_append, hfl]
        simp <;> omega
    rw [hF]
    simp only [ne_eq, not_true, if_false]
    rw [eL, ih (P ++ fiL ends f) m hr' (by rw [eL] at hn; simp only [List.length_append] at hn ⊢; omega)]
    rfl
theorem subs_back {id : Int} {l : List Fi} {ends : Bool} (h : putE id l ends = 0) : ofV (txtL (strB (putLs id l ends))) ends = (id, l.map (bk ends), 0) ∧ (strB (putLs id l ends)).size ≤ 4096 ∧ 1 ≤ l.length ∧ l.length ≤ 8 := by
  have hB : beginE id l.length = 0 := by
    unfold putE at h
    by_cases hB : beginE id l.length ≠ 0
    · rw [if_pos hB] at h; exact absurd h hB
    · exact Decidable.not_not.1 hB
  obtain ⟨h8, h0, h1, h2⟩ := begin_zero (by omega) hB
  have hF : firstF ends l = 0 := by
    unfold putE at h
    rw [if_neg (by simpa using hB)] at h
    by_cases ha : firstF ends l ≠ 0
    · rw [if_pos ha] at h; exact absurd h ha
    · exact Decidable.not_not.1 ha
  have hlen : ¬ 4096 < 2 + (fisL ends l).length := by
    unfold putE at h
    rw [if_neg (by simpa using hB), if_neg (by simpa using hF)] at h
    intro hc
    rw [if_pos hc] at h; cases h
  have hall := firstF_zero.1 hF
  have eL : putLs id l ends = [(id / 256).toNat, (id % 256).toNat] ++ fisL ends l := by unfold putLs; rw [if_pos h]
  have hlt : ∀ x ∈ putLs id l ends, x < 256 := by
    rw [eL]; intro x hx
    rcases List.mem_append.1 hx with hx | hx
    · simp only [List.mem_cons, List.not_mem_nil, or_false] at hx
      rcases hx with rfl | rfl <;> omega
    · exact fisL_lt hall x hx
  rw [strB_size, txtL_strB hlt, eL]
  have hll : ([(id / 256).toNat, (id % 256).toNat] ++ fisL ends l).length = 2 + (fisL ends l).length := by simp; omega
  refine ⟨?_, by rw [hll]; omega, by omega, by omega⟩
  have hnum : numV ([(id / 256).toNat, (id % 256).toNat] ++ fisL ends l) = (id, 0) := by
    unfold numV
    rw [if_neg (by rw [hll]; omega)]
    have g0 : ([(id / 256).toNat, (id % 256).toNat] ++ fisL ends l).getD 0 0 = (id / 256).toNat := rfl
    have g1 : ([(id / 256).toNat, (id % 256).toNat] ++ fisL ends l).getD 1 0 = (id % 256).toNat := rfl
    rw [g0, g1, if_neg (by omega)]
    have : ((256 * (id / 256).toNat + (id % 256).toNat : Nat) : Int) = id := by omega
    rw [this]
  have hs := seq_back ends l [(id / 256).toNat, (id % 256).toNat] (([(id / 256).toNat, (id % 256).toNat] ++ fisL ends l).length + 1) hall (by omega)
  have hw : ofW ([(id / 256).toNat, (id % 256).toNat] ++ fisL ends l) ends = (l.map (bk ends), 0) := by
    unfold ofW
    rw [show (2 : Nat) = [(id / 256).toNat, (id % 256).toNat].length from rfl, hs, seqR_done _ _ _ (by simp) (by simpa using by omega)]
    have : l ≠ [] := by intro e; subst e; simp at h0
    simp [this]
  unfold ofV
  rw [hnum, hw, if_neg (by simp), if_neg (by simp)]
end Go.Proofs.YtmpklaokgogigaaDoor

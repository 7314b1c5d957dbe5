/-
  LAYER 15: the document's Of.
-/
import Derived.Test.YtmpklaokgogigaaDoorSn
import Derived.Test.YtmpklaokgogigaaDoorSi
namespace Go.Proofs.YtmpklaokgogigaaDoor
set_option linter.unusedSimpArgs false
set_option linter.unusedVariables false
open Go.RowKit

theorem cell_two_at (w : World) (g : Nat) (x y : Value) (t : TypeId) (hg : g = w.heap.size) : ∀ j u, [x, y][j]? = some u → (w.alloc (.cells #[x, y] t)).cell? ((⟨g, 0, none⟩ : Addr).add j) = some u := by
  subst hg; exact cell_two_new w x y t
theorem own_fis_step {acc : List Fi} {f : Fi} : fisC (acc ++ [f]) = fisC acc ++ [.string f.t, .int .i64 f.q] := by simp [fisC, Fi.cells]
theorem own_below2 {w w' : World} {B e size n : Nat} {v : Value} {xs : List Value} (h : w.ownsRow B e size v n xs) (hb : Below w.heap.size w w') : w'.ownsRow B e size v n xs := by
  refine ⟨h.1, h.2.imp id ?_⟩
  rintro ⟨g, cap, cur, hv, hg, hcur, rest⟩
  exact ⟨g, cap, cur, hv, hg, by rw [hb.block g (Array.getElem?_eq_some_iff.1 hcur).1]; exact hcur, rest⟩
theorem grown2 {B e size n : Nat} {w w' : World} {v : Value} {xs : List Value} (hown : w.ownsRow B e size v n xs) (hg : w.grownBy w' v.ownBlock) (hB : B ≤ w.heap.size) : Below B w w' :=
  (Below.refl _ _).grown hg hB (fun k hk => (hown.lt k hk).1)
set_option maxHeartbeats 4000000 in
set_option maxRecDepth 100000 in
theorem of13_any (s : ByteArray) (ends : Bool) (w : World) (hs : s.size ≤ 140737488351232) : Calls Tryd.prog 42 #[.string s, .bool ends] w (OfP (ofV (txtL s) ends) w) := by
  have NB := Lib.hid (rbegin_any s w hs)
  have hbytes := fun w => bytes_of s w
  have hl := txtL_length s
  have h256 := txt_lt s
  generalize txtL s = l at *
  have hl' : l.length ≤ 140737488351232 := by omega
  have hm : (l.length : Int) ≤ 140737488351232 := by omega
  replace hl := Lib.hid hl
  unfold Num2 at NB
  by_cases hn : (numV l).2 = 0
  · rw [hn] at NB
    have eV : ofV l ends = if (ofW l ends).2 ≠ 0 then (0, [], (ofW l ends).2) else ((numV l).1, (ofW l ends).1, 0) := by unfold ofV; rw [if_neg (by simpa using hn)]
    generalize (numV l).1 = id at *
    generalize ofV l ends = V at *
    have eW : ofW l ends = seqR (seqL l ends (l.length + 1) 2) 8 [] := rfl
    have h2 : 2 ≤ l.length := (numV_ok hn h256).1
    generalize ofW l ends = OW at *
    replace eV := Lib.hid eV
    replace eW := Lib.hid eW
    replace hn := Lib.hid hn
    have hbyte : ∀ j, l.getD j 0 < 256 := fun j => by
      rw [List.getD_eq_getElem?_getD]
      cases e : l[j]? with
      | none => simp
      | some x => exact h256 x (List.mem_of_getElem? e)
    replace hbyte := Lib.hid hbyte
    replace h256 := Lib.hid h256
    obtain ⟨i0, hi, hz0, hz1, hz2⟩ := info_parts info47
    replace hi := Lib.hid hi
    replace hz0 := Lib.hid hz0
    replace hz1 := Lib.hid hz1
    replace hz2 := Lib.hid hz2
    replace hbytes := Lib.hid hbytes
    go_enter Tryd.func42, Tryd.ntmps42
    go_wp2_with fail
    refine NB.out.mono ?_
    rintro e w0 ⟨rfl, b0⟩
    obtain ⟨v, w1, hconv, a1, b1⟩ := hbytes.out w0
    have A1 := Lib.hid a1
    have hA : ∀ wr, Below w1.heap.size w1 wr → BytesAt wr v l := fun wr h => a1.keep h (Nat.le_refl _)
    obtain ⟨a, cap, rfl, -, hcs⟩ := a1
    have B1 := Lib.hid (ext_trans b0 b1)
    replace hA := Lib.hid hA
    clear b0 b1
    go_wp2_with fail
    go_loopw [10, 11] (fun c i wr => ∃ (k f : Nat) (acc : List Fi), i = .int .i64 (k : Int) ∧ k ≤ l.length ∧ l.length - k ≤ f ∧ acc.length ≤ 8 ∧ OW = seqR (seqL l ends f k) (8 - acc.length) acc ∧ wr.ownsRow w1.heap.size 56 2 c acc.length (fisC acc) ∧ Below w1.heap.size w1 wr) (fun _ i _ => l.length - (intOf i).toNat)
    case atStart => exact ⟨2, l.length + 1, [], rfl, h2, by omega, by simp, eW.out, by simpa [fisC] using World.ownsRow_nil _ _ _ _, Below.refl _ _⟩
    case round =>
      obtain ⟨k, f, acc, rfl, hk, hf, h8, hOW, hown, hbw⟩ := hrel
      obtain ⟨va, vc, rfl⟩ := own_slice hown
      have BW := Lib.hid (B1.out.trans (hbw.mono B1.out.size))
      have zr : w1.heap.size ≤ wr.heap.size := hbw.size
      replace hbw := Lib.hid hbw
      by_cases hlt : k < l.length
      · have hlt' : (k : Int) < l.length := by omega
        obtain ⟨f', rfl, hst⟩ := seqL_step (ends := ends) hlt hf
        rw [hst] at hOW
        by_cases h88 : acc.length = 8
        · have h88' : 8 ≤ (acc.length : Int) := by omega
          rw [h88] at hOW
          have hO : OW = ([], 6) := by rw [hOW]; rfl
          have eV' := eV.out
          rw [hO, if_pos (by decide)] at eV'
          replace eV' := Lib.hid eV'
          replace hO := Lib.hid hO
          replace hOW := Lib.hid hOW
          replace hst := Lib.hid hst
          replace h88 := Lib.hid h88
          clear hown
          go_wp2_with fail
          go_ret3
          exact ⟨_, by rw [eV'.out]; rfl, by rw [eV'.out]; exact ⟨fis_nil _, fresh_nil _⟩, BW.out⟩
        · have h87 : (acc.length : Int) < 8 := by omega
          obtain ⟨m8, e8⟩ : ∃ m8, 8 - acc.length = m8 + 1 := ⟨7 - acc.length, by omega⟩
          rw [e8, seqR] at hOW
          have GE := Lib.hid (rget_any (.slice a l.length cap) l k wr (hA.out wr hbw.out) h256.out (by omega) (by omega))
          have EN := @getV_end l k
          have FE : filtV l k ends = (if (getV l k).2.2 ≠ 0 then (noF, 0, (getV l k).2.2) else if ends then (⟨(getV l k).1, 0⟩, (getV l k).2.1.toNat, 0) else if (getV l k).2.1.toNat = l.length then (noF, 0, 2) else if 2 < l.getD (getV l k).2.1.toNat 0 then (noF, 0, 5) else (⟨(getV l k).1, (l.getD (getV l k).2.1.toNat 0 : Nat)⟩, (getV l k).2.1.toNat + 1, 0)) := rfl
          generalize filtV l k ends = FV at *
          generalize getV l k = r at *
          obtain ⟨S, y, x⟩ := r
          unfold GetPost at GE
          simp only at GE EN FE
          replace hst := Lib.hid hst
          by_cases hx : x = 0
          · obtain ⟨m, rfl, hm1, hm2⟩ := EN hx h256.out
            subst hx
            rw [if_neg (by simp), Int.toNat_natCast] at FE
            have hm3 : (m : Int) ≤ l.length := by omega
            have hm4 : (k : Int) + 2 ≤ m := by omega
            cases ends
            · by_cases he : m = l.length
              · have hd : (l.length : Int) ≤ m := by omega
                rw [if_neg (by simp), if_pos he] at FE
                subst FE
                rw [if_pos (by decide)] at hOW
                have eV' := eV.out
                rw [hOW, if_pos (by decide)] at eV'
                replace eV' := Lib.hid eV'
                replace hOW := Lib.hid hOW
                replace he := Lib.hid he
                replace e8 := Lib.hid e8
                clear hown EN
                go_wp2_with (go_at_call 69; refine GE.out.mono ?_; rintro e w3 ⟨rfl, b3⟩; have B3 := Lib.hid (ext_trans BW.out b3); clear b3)
                go_ret3
                exact ⟨_, by rw [eV'.out]; rfl, by rw [eV'.out]; exact ⟨fis_nil _, fresh_nil _⟩, B3.out.alloc B3.out.size _⟩
              · have hlt2 : m < l.length := by omega
                have hlt2' : (m : Int) < l.length := by omega
                rw [if_neg (by simp), if_neg he] at FE
                obtain ⟨b, o, rfl, hbl⟩ : ∃ b o, a = some ⟨b, o, none⟩ ∧ b < w1.heap.size := by
                  rcases hcs with rfl | ⟨b, o, rfl, hbl, -⟩
                  · simp at hlt2
                  · exact ⟨b, o, rfl, hbl⟩
                have BY := Lib.hid fun w3 (h3 : Below wr.heap.size wr w3) => byte_at A1.out hlt2 (hbw.out.trans ((h3.mono zr)))
                have hc := hbyte.out m
                generalize l.getD m 0 = c at *
                have hc' : (c : Int) < 256 := by omega
                replace he := Lib.hid he
                by_cases hc2 : 2 < c
                · have hc2' : 2 < (c : Int) := by omega
                  rw [if_pos hc2] at FE
                  subst FE
                  rw [if_pos (by decide)] at hOW
                  have eV' := eV.out
                  rw [hOW, if_pos (by decide)] at eV'
                  replace eV' := Lib.hid eV'
                  replace hOW := Lib.hid hOW
                  replace e8 := Lib.hid e8
                  clear hown EN
                  go_wp2_with (go_at_call 69; refine GE.out.mono ?_; rintro e w3 ⟨rfl, b3⟩; have by0 := BY.out _ (b3.trans (Below.refl _ _)); have by1 := BY.out _ (b3.alloc b3.size (.cells #[.string S, .int .i64 0] 56)); have B3 := Lib.hid (ext_trans BW.out b3); clear b3)
                  go_ret3
                  exact ⟨_, by rw [eV'.out]; rfl, by rw [eV'.out]; exact ⟨fis_nil _, fresh_nil _⟩, B3.out.alloc B3.out.size _⟩
                · have hc2' : (c : Int) ≤ 2 := by omega
                  rw [if_neg hc2] at FE
                  subst FE
                  rw [if_neg (by simp)] at hOW
                  replace hOW := Lib.hid hOW
                  have e8' : m8 = 8 - (acc.length + 1) := by omega
                  replace e8' := Lib.hid e8'
                  replace e8 := Lib.hid e8
                  replace hown := Lib.hid hown
                  clear EN
                  go_wp2_with (first | (go_at_call 69; refine GE.out.mono ?_; rintro e w3 ⟨rfl, b3⟩; have by0 := BY.out _ (b3.trans (Below.refl _ _)); have by1 := BY.out _ (b3.alloc b3.size (.cells #[.string S, .int .i64 0] 56)); have o3 := Lib.hid (own_below2 hown.out b3); have z3 : w1.heap.size ≤ w3.heap.size := Nat.le_trans zr b3.size; have B3 := Lib.hid (hbw.out.trans (b3.mono zr)); clear b3) | (at_builtin; (refine wpList_append_own_at _ rfl (.tmp 65) (.tmp 67) 30 rfl w1.heap.size 56 i0 _ 2 24 Tryd.underlying30 hi.out hz0.out hz1.out hz2.out rfl (by decide) (.slice va acc.length vc) acc.length _ rfl ((o3.out.alloc _).alloc _) ⟨w3.heap.size + 1, 0, none⟩ 1 1 [.string S, .int .i64 (c : Nat)] rfl rfl (cell_two_at _ _ _ _ _ (by simp)) (by intro u hu; simp at hu; rcases hu with rfl | rfl <;> rfl) (by unfold maxLen; omega) (by omega) (by simp; omega) ?_); intro v4 w4 o4 g4 n4 nb4; clear n4 nb4; have B4 := Lib.hid (((B3.out.alloc z3 (.cells #[.string S, .int .i64 (c : Nat)] 56)).alloc (by simp; omega) (.cells #[.string S, .int .i64 (c : Nat)] 56)).trans (grown2 ((o3.out.alloc _).alloc _) g4 (by simp; omega))); clear g4; replace o4 := Lib.hid o4))
                  go_roundw
                  case rel => exact ⟨m + 1, f', acc ++ [⟨S, (c : Nat)⟩], by simp, by omega, by omega, by simp; omega, by rw [List.length_append, List.length_singleton, ← e8'.out]; exact hOW.out, by rw [own_fis_step, List.length_append, List.length_singleton]; exact o4.out, B4.out⟩
                  case measure => simp [intOf]; omega
            · rw [if_pos rfl] at FE
              subst FE
              rw [if_neg (by simp)] at hOW
              replace hOW := Lib.hid hOW
              have e8' : m8 = 8 - (acc.length + 1) := by omega
              replace e8' := Lib.hid e8'
              replace e8 := Lib.hid e8
              replace hown := Lib.hid hown
              clear EN
              go_wp2_with (first | (go_at_call 69; refine GE.out.mono ?_; rintro e w3 ⟨rfl, b3⟩; have o3 := Lib.hid (own_below2 hown.out b3); have z3 : w1.heap.size ≤ w3.heap.size := Nat.le_trans zr b3.size; have B3 := Lib.hid (hbw.out.trans (b3.mono zr)); clear b3) | (at_builtin; (refine wpList_append_own_at _ rfl (.tmp 65) (.tmp 67) 30 rfl w1.heap.size 56 i0 _ 2 24 Tryd.underlying30 hi.out hz0.out hz1.out hz2.out rfl (by decide) (.slice va acc.length vc) acc.length _ rfl ((o3.out.alloc _).alloc _) ⟨w3.heap.size + 1, 0, none⟩ 1 1 [.string S, .int .i64 0] rfl rfl (cell_two_at _ _ _ _ _ (by simp)) (by intro u hu; simp at hu; rcases hu with rfl | rfl <;> rfl) (by unfold maxLen; omega) (by omega) (by simp; omega) ?_); intro v4 w4 o4 g4 n4 nb4; clear n4 nb4; have B4 := Lib.hid (((B3.out.alloc z3 (.cells #[.string S, .int .i64 0] 56)).alloc (by simp; omega) (.cells #[.string S, .int .i64 0] 56)).trans (grown2 ((o3.out.alloc _).alloc _) g4 (by simp; omega))); clear g4; replace o4 := Lib.hid o4))
              go_roundw
              case rel => exact ⟨m, f', acc ++ [⟨S, 0⟩], rfl, by omega, by omega, by simp; omega, by rw [List.length_append, List.length_singleton, ← e8'.out]; exact hOW.out, by rw [own_fis_step, List.length_append, List.length_singleton]; exact o4.out, B4.out⟩
              case measure => simp [intOf]; omega
          · rw [if_pos hx] at FE
            subst FE
            have hx' : (x != 0) = true := by simpa using hx
            rw [if_pos hx] at hOW
            have eV' := eV.out
            rw [hOW, if_pos hx] at eV'
            replace eV' := Lib.hid eV'
            replace hOW := Lib.hid hOW
            replace hx := Lib.hid hx
            replace e8 := Lib.hid e8
            clear hown EN
            go_wp2_with (go_at_call 69; refine GE.out.mono ?_; rintro e w3 ⟨rfl, b3⟩; have B3 := Lib.hid (ext_trans BW.out b3); clear b3)
            go_ret3
            exact ⟨_, by rw [eV'.out]; rfl, by rw [eV'.out]; exact ⟨fis_nil _, fresh_nil _⟩, B3.out⟩
      · have hge : (l.length : Int) ≤ k := by omega
        rw [seqL_end (by omega)] at hOW
        unfold seqR at hOW
        have eV' := eV.out
        by_cases h0 : acc = []
        · subst h0
          rw [hOW, if_pos rfl, if_pos (by decide)] at eV'
          replace eV' := Lib.hid eV'
          replace hOW := Lib.hid hOW
          replace hlt := Lib.hid hlt
          clear hown
          go_wp2_with fail
          go_ret3
          exact ⟨_, by rw [eV'.out]; rfl, by rw [eV'.out]; exact ⟨fis_nil _, fresh_nil _⟩, BW.out⟩
        · rw [hOW, if_neg h0, if_neg (by simp)] at eV'
          have hpos : 0 < acc.length := List.length_pos_iff.2 h0
          have hd : ((acc.length : Int) == 0) = false := by rw [beq_eq_false_iff_ne]; omega
          have hF := Lib.hid (⟨FisAt.of_own hown (by omega), fresh_own hown B1.out.size⟩ : _ ∧ Fresh w.heap.size _)
          replace eV' := Lib.hid eV'
          replace hOW := Lib.hid hOW
          replace h0 := Lib.hid h0
          replace hlt := Lib.hid hlt
          clear hown
          go_wp2_with fail
          go_ret3
          exact ⟨_, by rw [eV'.out]; rfl, by rw [eV'.out]; exact hF.out, BW.out⟩
  · have eV : ofV l ends = (0, [], (numV l).2) := by unfold ofV; rw [if_pos hn]
    rw [eV]
    have hd2 : ((numV l).2 != 0) = true := by simpa using hn
    generalize (numV l).2 = E at *
    generalize (numV l).1 = id at *
    replace eV := Lib.hid eV
    replace hn := Lib.hid hn
    replace h256 := Lib.hid h256
    replace hbytes := Lib.hid hbytes
    go_enter Tryd.func42, Tryd.ntmps42
    go_wp2_with fail
    refine NB.out.mono ?_
    rintro e w1 ⟨rfl, b1⟩
    replace b1 := Lib.hid b1
    go_wp2_with fail
    go_ret3
    exact ⟨_, rfl, ⟨fis_nil _, fresh_nil _⟩, b1.out⟩
end Go.Proofs.YtmpklaokgogigaaDoor

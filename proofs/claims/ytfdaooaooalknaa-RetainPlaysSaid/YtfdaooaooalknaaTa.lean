/-
  LAYER 18: the steps of a filter, or of a name: the program's.
-/
import Derived.Test.YtfdaooaooalknaaSc
import Derived.Laws.OwnMore
import Derived.Laws.AppendOwnNone
import Derived.Deep.MidRow
namespace Go.Proofs.Ytfdaooaooalknaa
set_option linter.unusedSimpArgs false
set_option linter.unusedVariables false
open Go.RowKit

theorem Try.info61 : (Try.prog.info? 61).map (fun i => (i.zero, i.size, i.bytes)) = some (some (.agg #[.int .i64 0, .string ⟨#[]⟩]), 2, 24) := by kernel_rfl
def stV (x : ByteArray) : List Value := if x = isPlus then [.int .i64 1, .string ⟨#[]⟩] else if x = isHash then [.int .i64 2, .string ⟨#[]⟩] else [.int .i64 0, .string x]
def sts (ss : List ByteArray) : List Value := ss.flatMap stV
theorem sts_snoc (ss : List ByteArray) (x : ByteArray) : sts (ss ++ [x]) = sts ss ++ stV x := by simp [sts]
theorem take_snoc {ss : List ByteArray} {k : Nat} {x : ByteArray} (h : ss[k]? = some x) : ss.take (k + 1) = ss.take k ++ [x] := by rw [List.take_add_one, h]; rfl
def StepsIs (ss : List ByteArray) (w : World) (e : Ending) (w' : World) : Prop := ∃ v, e = .returned v ∧ w'.ownsRow w.heap.size 61 2 v ss.length (sts ss) ∧ Below w.heap.size w w'
theorem cell_two_new (w : World) (a b : Value) {g : Nat} (t : TypeId) (hg : g = w.heap.size) : ∀ j u, [a, b][j]? = some u → (w.alloc (.cells #[a, b] t)).cell? ((⟨g, 0, none⟩ : Addr).add j) = some u := by
  subst hg
  intro j u hj
  rw [Addr.add_mid, Nat.zero_add, World.cell?_alloc_at _ _ _ _ rfl]
  simpa using hj
theorem sgrown {B : Nat} {w w' : World} {v : Value} {n size : Nat} {xs : List Value} {e : TypeId} (hown : w.ownsRow B e size v n xs) (hg : w.grownBy w' v.ownBlock) (hB : B ≤ w.heap.size) : Below B w w' :=
  (Below.refl _ _).grown hg hB (fun k hk => (hown.lt k hk).1)
theorem sown_mono {w : World} {B C : Nat} {v : Value} {n size : Nat} {xs : List Value} {e : TypeId} (h : w.ownsRow C e size v n xs) (hB : B ≤ C) : w.ownsRow B e size v n xs := by
  refine ⟨h.1, h.2.imp id ?_⟩
  rintro ⟨g, cap, cur, hv, hb, rest⟩
  exact ⟨g, cap, cur, hv, Nat.le_trans hB hb, rest⟩
set_option maxHeartbeats 2000000 in
set_option maxRecDepth 100000 in
theorem steps_any (s : ByteArray) (w : World) (hs : s.size ≤ 1048576) : Calls Try.prog 39 #[.string s] w (StepsIs (spS s) w) := by
  obtain ⟨i0, hi, hz0, hz1, hz2⟩ := info_parts Try.info61
  replace hi := Lib.hid hi
  replace hz0 := Lib.hid hz0
  replace hz1 := Lib.hid hz1
  replace hz2 := Lib.hid hz2
  have SP := Lib.hid (split_any s w hs)
  have hlen := spS_le s
  have hpos := spS_pos s
  go_enter Try.func39, Try.ntmps39
  go_wp2_with fail
  refine SP.out.mono ?_
  rintro e w2 ⟨v, rfl, hown, b2⟩
  generalize spS s = ss at *
  obtain ⟨g, cap, rfl, -, hg, hcap, hcell⟩ := own_cells hown (by omega)
  replace hcell := Lib.hid hcell
  replace b2 := Lib.hid b2
  have hlen' : (ss.length : Int) ≤ 1048577 := by omega
  have hlen2 : ss.length ≤ 1048577 := by omega
  clear hown SP hs hpos hlen hcap
  go_wp2
  go_loopw [3, 9] (fun l i wr => ∃ k : Nat, i = .int .i64 k ∧ k ≤ ss.length ∧ wr.ownsRow w2.heap.size 61 2 l (ss.take k).length (sts (ss.take k)) ∧ Below w2.heap.size w2 wr) (fun _ i _ => ss.length - (intOf i).toNat)
  case atStart => exact ⟨0, rfl, by omega, World.ownsRow_nil _ _ _ _, Below.refl _ _⟩
  case round =>
    obtain ⟨k, rfl, hk, hown, hb⟩ := hrel
    have zr : w2.heap.size ≤ wr.heap.size := hb.size
    have hlt : (ss.take k).length = k := by rw [List.length_take]; omega
    have B3 := Lib.hid (b2.out.trans (hb.mono b2.out.size))
    have hb' := Lib.hid hb
    by_cases hend : k = ss.length
    · subst hend
      rw [List.take_length] at hown
      have hown2 := Lib.hid (sown_mono hown b2.out.size)
      obtain ⟨p, c, rfl⟩ := own_slice hown
      clear hown hb hlt
      go_wp2
      go_ret
      exact ⟨_, rfl, hown2.out, B3.out⟩
    obtain ⟨x, hx⟩ : ∃ x, ss[k]? = some x := ⟨_, List.getElem?_eq_getElem (by omega)⟩
    have c0 : wr.cell? ⟨g, k, none⟩ = some (.string x) := by rw [hb.cell (by simpa using hg)]; exact hcell.out k x hx
    have klt : (k : Int) < (ss.length : Int) := by omega
    have T := take_snoc hx
    have T2 : sts (ss.take (k + 1)) = sts (ss.take k) ++ stV x := by rw [T, sts_snoc]
    have T3 : (ss.take (k + 1)).length = (ss.take k).length + 1 := by rw [T, List.length_append]; rfl
    have hltk : (ss.take k).length ≤ 1048577 := by omega
    generalize ss.take k = M at *
    replace T := Lib.hid T
    replace T2 := Lib.hid T2
    replace T3 := Lib.hid T3
    replace hx := Lib.hid hx
    replace hown := Lib.hid hown
    replace hlt := Lib.hid hlt
    clear hb
    by_cases hp : x = isPlus
    · have p1 : (x.toList == [43]) = true := by rw [is_plus, hp]; rfl
      have hV := Lib.hid (show stV x = [.int .i64 1, .string ⟨#[]⟩] by rw [hp]; rfl)
      replace hp := Lib.hid hp
      go_wp2_with (at_builtin; (refine wpList_append_own_at _ rfl (.tmp 21) (.tmp 23) 58 rfl w2.heap.size 61 i0 _ 2 24 Try.underlying58 hi.out hz0.out hz1.out hz2.out rfl (by decide) _ M.length (sts M) rfl (hown.out.alloc _) ⟨wr.heap.size, 0, none⟩ 1 1 [.int .i64 1, .string ⟨#[]⟩] rfl rfl (cell_two_new _ _ _ _ rfl) (by intro u hu; simp at hu; rcases hu with rfl | rfl <;> rfl) (by unfold maxLen; omega) (by omega) (by simp; omega) ?_); intro v3 w3 o3 gr3 n3 nb3; clear n3 nb3; have B4 := Lib.hid ((hb'.out.alloc hb'.out.size (.cells #[.int .i64 1, .string ⟨#[]⟩] 61)).trans (sgrown (hown.out.alloc _) gr3 (by simp; omega))); clear gr3; replace o3 := Lib.hid o3)
      go_roundw
      case rel => exact ⟨k + 1, by simp, by omega, by rw [T2.out, T3.out, hV.out]; exact o3.out, B4.out⟩
      case measure => simp [intOf]; omega
    have p1 : (x.toList == [43]) = false := by rw [is_plus, decide_eq_false hp]
    by_cases hh : x = isHash
    · have p2 : (x.toList == [35]) = true := by rw [is_hash, hh]; rfl
      have hV := Lib.hid (show stV x = [.int .i64 2, .string ⟨#[]⟩] by rw [hh]; rfl)
      replace hh := Lib.hid hh
      replace hp := Lib.hid hp
      go_wp2_with (at_builtin; (refine wpList_append_own_at _ rfl (.tmp 27) (.tmp 29) 58 rfl w2.heap.size 61 i0 _ 2 24 Try.underlying58 hi.out hz0.out hz1.out hz2.out rfl (by decide) _ M.length (sts M) rfl (hown.out.alloc _) ⟨wr.heap.size, 0, none⟩ 1 1 [.int .i64 2, .string ⟨#[]⟩] rfl rfl (cell_two_new _ _ _ _ rfl) (by intro u hu; simp at hu; rcases hu with rfl | rfl <;> rfl) (by unfold maxLen; omega) (by omega) (by simp; omega) ?_); intro v3 w3 o3 gr3 n3 nb3; clear n3 nb3; have B4 := Lib.hid ((hb'.out.alloc hb'.out.size (.cells #[.int .i64 2, .string ⟨#[]⟩] 61)).trans (sgrown (hown.out.alloc _) gr3 (by simp; omega))); clear gr3; replace o3 := Lib.hid o3)
      go_roundw
      case rel => exact ⟨k + 1, by simp, by omega, by rw [T2.out, T3.out, hV.out]; exact o3.out, B4.out⟩
      case measure => simp [intOf]; omega
    have p2 : (x.toList == [35]) = false := by rw [is_hash, decide_eq_false hh]
    have hV := Lib.hid (show stV x = [.int .i64 0, .string x] by unfold stV; rw [if_neg hp, if_neg hh])
    replace hh := Lib.hid hh
    replace hp := Lib.hid hp
    go_wp2_with (at_builtin; (refine wpList_append_own_at _ rfl (.tmp 14) (.tmp 17) 58 rfl w2.heap.size 61 i0 _ 2 24 Try.underlying58 hi.out hz0.out hz1.out hz2.out rfl (by decide) _ M.length (sts M) rfl (hown.out.alloc _) ⟨wr.heap.size, 0, none⟩ 1 1 [.int .i64 0, .string x] rfl rfl (cell_two_new _ _ _ _ rfl) (by intro u hu; simp at hu; rcases hu with rfl | rfl <;> rfl) (by unfold maxLen; omega) (by omega) (by simp; omega) ?_); intro v3 w3 o3 gr3 n3 nb3; clear n3 nb3; have B4 := Lib.hid ((hb'.out.alloc hb'.out.size (.cells #[.int .i64 0, .string x] 61)).trans (sgrown (hown.out.alloc _) gr3 (by simp; omega))); clear gr3; replace o3 := Lib.hid o3)
    go_roundw
    case rel => exact ⟨k + 1, by simp, by omega, by rw [T2.out, T3.out, hV.out]; exact o3.out, B4.out⟩
    case measure => simp [intOf]; omega
end Go.Proofs.Ytfdaooaooalknaa

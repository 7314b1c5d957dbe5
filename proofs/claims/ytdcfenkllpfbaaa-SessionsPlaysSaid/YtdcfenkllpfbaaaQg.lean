/-
  LAYER 22: a queue that nobody made; awake.
-/
import Derived.Test.YtdcfenkllpfbaaaQc
import Derived.Test.YtdcfenkllpfbaaaFr
import Derived.Deep.DeepMust
namespace Go.Proofs.Ytdcfenkllpfbaaa.Quu
set_option linter.unusedSimpArgs false
set_option linter.unusedVariables false
open Go.RowKit
/-- No queue at all, or one that nobody made. -/
def NoQ (w : World) (p : Option Addr) : Prop := ∀ W, Below w.heap.size w W → Calls Try.prog 43 #[.pointer p] W fun e w' => e = .returned (.bool true) ∧ W = w'
theorem noQ_nil (w : World) : NoQ w none := fun W _ => none_nil W
theorem noQ_zero {w : World} {g : Nat} (hg : g < w.heap.size) (h : w.cell? ⟨g, 0, none⟩ = some (.chan none)) : NoQ w (some ⟨g, 0, none⟩) :=
  fun W hb => none_zero W ((hb.cell (by simpa using hg)).trans h)
theorem NoQ.keep {w w' : World} {p : Option Addr} (h : NoQ w p) (hb : Below w.heap.size w w') : NoQ w' p := fun W b => h W (ext_trans hb b)
theorem eql46_ns (a : Addr) (w : World) : (binOp .eql 75 (.pointer none) (.pointer (some a))).run Try.prog w = .ok (.bool false) w := by
  have h : ∀ d : Nat, (Op.equalIn (d + 1) 75 (.pointer none) (.pointer (some a))).run Try.prog w = .ok false w := fun d => by
    simp [Op.equalIn, run_underlying Try.underlying75]
  simp only [binOp]
  simp [Op.equal, Op.maxDepth, h 9999]
section
variable {w : World} {p : Option Addr}
theorem put_0 (h : NoQ w p) (m : Mg) : Calls Try.prog 31 #[.pointer p, m.v] w fun e w' => e = .returned (.bool false) ∧ Below w.heap.size w w' := by
  have N := Lib.hid h
  clear h
  go_enter Try.func31, Try.ntmps31
  go_wp2_with fail
  refine (N.out _ (ext_alloc _ _)).mono ?_
  rintro e w' ⟨rfl, rfl⟩
  go_wp2
  go_ret
  exact ⟨rfl, ext_alloc _ _⟩
theorem len_0 (h : NoQ w p) : Calls Try.prog 44 #[.pointer p] w fun e w' => e = .returned (.int .i64 0) ∧ w = w' := by
  have N := Lib.hid (h _ (Below.refl _ _))
  clear h
  go_enter Try.func44, Try.ntmps44
  go_wp2_with fail
  refine N.out.mono ?_
  rintro e w' ⟨rfl, rfl⟩
  go_wp2
  go_ret
  exact ⟨rfl, rfl⟩
set_option maxRecDepth 100000 in
theorem take_0 (h : NoQ w p) : Calls Try.prog 46 #[.pointer p] w fun e w' => e = .returned (.tuple #[mZ.v, .bool false]) ∧ Below w.heap.size w w' := by
  have N := Lib.hid h
  clear h
  go_enter Try.func46, Try.ntmps46
  go_wp2_with fail
  refine (N.out _ (ext_alloc _ _)).mono ?_
  rintro e w' ⟨rfl, rfl⟩
  go_wp2
  refine bodyPost_ret (v := .tuple #[mZ.v, .bool false]) (by simp [results, Try.results46, go_sem, Mg.v, mZ]) rfl ⟨rfl, ?_⟩
  exact ext_alloc _ _
set_option maxRecDepth 100000 in
theorem all_0 (h : NoQ w p) : Calls Try.prog 34 #[.pointer p] w fun e w' => e = .returned (.slice none 0 0) ∧ w = w' := by
  have N := Lib.hid (len_0 h)
  clear h
  go_enter Try.func34, Try.ntmps34
  go_wp2_with fail
  refine N.out.mono ?_
  rintro e w' ⟨rfl, rfl⟩
  go_wp2
  go_loopw [3, 8] (fun a i wr => a = .slice none 0 0 ∧ i = .int .i64 0 ∧ w = wr) (fun _ _ _ => 0)
  case atStart => exact ⟨rfl, rfl, rfl⟩
  case round =>
    obtain ⟨rfl, rfl, rfl⟩ := hrel
    go_wp2
    go_ret
    exact ⟨rfl, rfl⟩
def m1 : Mg := ⟨{ data := #[97] }, { data := #[] }, 0, false⟩
end
end Go.Proofs.Ytdcfenkllpfbaaa.Quu

/-
  LAYER 22: Clear, All, Move.
-/
namespace Go.Proofs.Ytdcfenkllpfbaaa.Quu
set_option linter.unusedSimpArgs false
set_option linter.unusedVariables false
open Go.RowKit
theorem own_chan {w w' : World} {B e size n c cap s r : Nat} {v : Value} {xs : List Value} {buf : Array Value} {cl tm : Bool} (h : w.ownsRow B e size v n xs) (hc : w.heap[c]? = some (.chan cap buf cl s r tm)) (hgr : w.grownBy w' (some c)) : w'.ownsRow B e size v n xs := by
  refine h.kept hgr (.inr ?_)
  rcases h.2 with ⟨rfl, -⟩ | ⟨g', cap, cur, rfl, -, hcur, -⟩
  · simp [Value.ownBlock]
  · intro e'
    obtain rfl : g' = c := by simpa [Value.ownBlock] using e'
    rw [hc] at hcur
    cases hcur
theorem info53 : (Try.prog.info? 46).map (fun i => (i.zero, i.size, i.bytes)) = some (some zM, 4, 48) := by kernel_rfl
section
variable {w w' : World} {g c cap : Nat} {l : List Mg} {lost : Int}
theorem Qu.own (h : Qu w g c cap l lost) {B e size n : Nat} {v : Value} {xs : List Value} (o : w.ownsRow B e size v n xs) (he : 105 ≠ e) (G : w.grownBy w' v.ownBlock) : Qu w' g c cap l lost := by
  obtain ⟨s, r, hc⟩ := h.ch
  refine ⟨(G.block g h.lt (own_far o h.row he)).trans h.row, s, r, (G.block c h.clt ?_).trans hc⟩
  rcases o.2 with ⟨rfl, -⟩ | ⟨g', cap, cur, rfl, -, hcur, -⟩
  · simp [Value.ownBlock]
  · intro e'
    obtain rfl : c = g' := by simpa [Value.ownBlock] using e'
    rw [hc] at hcur
    cases hcur
def AllPost (l : List Mg) (g c cap : Nat) (lost : Int) (w : World) (e : Ending) (w' : World) : Prop :=
  ∃ v, e = .returned v ∧ w'.ownsRow w.heap.size 46 4 v l.length (msAtC l) ∧ Qu w' g c cap l lost ∧ w.grownBy w' (some c)
theorem rot {l : List Mg} {k : Nat} (h : k < l.length) : l.drop k ++ l.take k = l[k] :: (l.drop (k + 1) ++ l.take k) := by
  rw [List.drop_eq_getElem_cons h]; rfl
theorem rot2 {l : List Mg} {k : Nat} (h : k < l.length) : l.drop (k + 1) ++ l.take k ++ [l[k]] = l.drop (k + 1) ++ l.take (k + 1) := by
  rw [List.append_assoc, List.take_succ_eq_append_getElem h]
theorem ms_snoc {l : List Mg} {k : Nat} (h : k < l.length) : msAtC (l.take k) ++ (l[k]).cells = msAtC (l.take (k + 1)) := by
  rw [List.take_succ_eq_append_getElem h, msAtC_snoc]
set_option maxHeartbeats 4000000 in
set_option maxRecDepth 100000 in
theorem all_any (h : Qu w g c cap l lost) (hl : l.length ≤ 1000) (hcap : l.length ≤ cap) : Calls Try.prog 34 #[.pointer (some ⟨g, 0, none⟩)] w (AllPost l g c cap lost w) := by
  obtain ⟨i5, hi5, hz0, hz1, hz2⟩ := info_parts info53
  have NL := Lib.hid (len_any h hl)
  have hl' : (l.length : Int) ≤ 1000 := by omega
  have H := Lib.hid h
  have hclt := h.clt
  have hzs : zM.cells.size = 4 := rfl
  clear h
  go_enter Try.func34, Try.ntmps34
  go_wp2_with fail
  refine (NL.out).mono ?_
  rintro e w1 ⟨rfl, rfl⟩
  go_wp2_with fail
  go_loopw [3, 8] (fun v iv wr => ∃ k : Nat, iv = .int .i64 (k : Int) ∧ k ≤ l.length ∧ wr.ownsRow w.heap.size 46 4 v k (msAtC (l.take k)) ∧ Qu wr g c cap (l.drop k ++ l.take k) lost ∧ w.grownBy wr (some c)) (fun _ iv _ => l.length - (intOf iv).toNat)
  case atStart => exact ⟨0, rfl, by omega, World.ownsRow_nil _ _ _ _, by simpa using H.out, World.grownBy.refl _ _⟩
  case round =>
    obtain ⟨k, rfl, hk, o, q, G⟩ := hrel
    by_cases hend : k = l.length
    · subst hend
      rw [List.drop_length, List.take_length, List.nil_append] at q
      rw [List.take_length] at o
      replace q := Lib.hid q
      replace G := Lib.hid G
      replace o := Lib.hid o
      go_wp2
      go_ret
      exact ⟨_, rfl, o.out, q.out, G.out⟩
    · have klt : k < l.length := by omega
      have klt' : (k : Int) < (l.length : Int) := by omega
      rw [rot klt] at q
      obtain ⟨m, hm⟩ : ∃ m, m = l[k] := ⟨_, rfl⟩
      rw [← hm] at q
      have T : Hid (Calls Try.prog 46 #[.pointer (some ⟨g, 0, none⟩)] wr fun e w' => e = .returned (.tuple #[.agg #[.string m.a0, .string m.a1, .int .i64 m.a2, .bool m.a3], .bool true]) ∧ Qu w' g c cap (l.drop (k + 1) ++ l.take k) lost ∧ wr.grownBy w' (some c)) := Lib.hid (take_yes q)
      have Q := Lib.hid q
      have sz := G.size
      replace G := Lib.hid G
      obtain ⟨va, vc, rfl⟩ := own_slice o
      replace o := Lib.hid o
      replace hm := Lib.hid hm
      clear q hend
      go_wp2_with fail
      refine T.out.mono ?_
      rintro e w2 ⟨rfl, q2, G2⟩
      have G3 := grown_trans G.out G2
      have o2 := own_chan o.out Q.out.ch.choose_spec.choose_spec G2
      have P : Hid (Calls Try.prog 31 #[.pointer (some ⟨g, 0, none⟩), .agg #[.string m.a0, .string m.a1, .int .i64 m.a2, .bool m.a3]] (w2.alloc (.cells #[.string m.a0, .string m.a1, .int .i64 m.a2, .bool m.a3] 46)) fun e w' => e = .returned (.bool true) ∧ Qu w' g c cap (l.drop (k + 1) ++ l.take k ++ [m]) lost ∧ (w2.alloc (.cells #[.string m.a0, .string m.a1, .int .i64 m.a2, .bool m.a3] 46)).grownBy w' (some c)) :=
        Lib.hid (put_yes (q2.keep (ext_alloc w2 _)) m (by simp; omega))
      have sz2 := G3.size
      have oA := Lib.hid (own_keep o2 (ext_alloc w2 (.cells #[.string m.a0, .string m.a1, .int .i64 m.a2, .bool m.a3] 46)))
      have QA := Lib.hid (q2.keep (ext_alloc w2 (.cells #[.string m.a0, .string m.a1, .int .i64 m.a2, .bool m.a3] 46)))
      have GA := Lib.hid (grown_trans G3 (grown_of (m := c) (ext_alloc w2 (.cells #[.string m.a0, .string m.a1, .int .i64 m.a2, .bool m.a3] 46)) (Nat.le_refl _)))
      have RA := heap_alloc_new w2 (.cells #[.string m.a0, .string m.a1, .int .i64 m.a2, .bool m.a3] 46)
      have lA : w2.heap.size < (w2.alloc (.cells #[.string m.a0, .string m.a1, .int .i64 m.a2, .bool m.a3] 46)).heap.size := by simp
      replace RA := Lib.hid RA
      clear q2 G2 G3 o2 T
      go_wp2_with fail
      refine P.out.mono ?_
      rintro e w3 ⟨rfl, q3, G4⟩
      have rB := (G4.block w2.heap.size lA (by simp; omega)).trans RA.out
      have e0 : w3.cell? ⟨w2.heap.size, 0, none⟩ = some (.string m.a0) := cell_of_row w3 _ 0 _ 46 (0, 0) rB
      have e1 : w3.cell? ⟨w2.heap.size, 1, none⟩ = some (.string m.a1) := cell_of_row w3 _ 1 _ 46 (0, 0) rB
      have e2 : w3.cell? ⟨w2.heap.size, 2, none⟩ = some (.int .i64 m.a2) := cell_of_row w3 _ 2 _ 46 (0, 0) rB
      have e3 : w3.cell? ⟨w2.heap.size, 3, none⟩ = some (.bool m.a3) := cell_of_row w3 _ 3 _ 46 (0, 0) rB
      have G5 := grown_trans GA.out G4
      have sz3 := G5.size
      have oB := Lib.hid (own_keep (own_chan oA.out QA.out.ch.choose_spec.choose_spec G4) (ext_alloc w3 (.cells #[.string m.a0, .string m.a1, .int .i64 m.a2, .bool m.a3] 46)))
      have hnew : Hid (∀ j u, m.cells[j]? = some u → (w3.alloc (.cells #[.string m.a0, .string m.a1, .int .i64 m.a2, .bool m.a3] 46)).cell? ((⟨w3.heap.size, 0, none⟩ : Addr).add j) = some u) := Lib.hid (by
        intro j u hj
        have := cell_of_row (w3.alloc (.cells #[.string m.a0, .string m.a1, .int .i64 m.a2, .bool m.a3] 46)) w3.heap.size j _ 46 (0, 0) (heap_alloc_new w3 _)
        rw [add_off', Nat.zero_add, this, ← hj]
        simp [Mg.cells])
      replace q3 := Lib.hid q3
      replace G5 := Lib.hid G5
      clear rB G4 P
      go_wp2_with (first
        | (at_builtin; go_must (refine wpList_append_own _ rfl (.tmp 18) (.tmp 20) 47 rfl w.heap.size 46 i5 zM 4 48 Try.underlying47 hi5 hz0 hz1 hz2 hzs (by decide) (.slice va k vc) k (msAtC (l.take k)) rfl oB.out ⟨w3.heap.size, 0, none⟩ 1 1 m.cells rfl rfl hnew.out (by intro u hu; simp [Mg.cells] at hu; rcases hu with rfl | rfl | rfl | rfl <;> rfl) (by unfold maxLen; omega) (by omega) (by simp; omega) ?_); intro v4 w4 o4 g4 _))
      go_roundw
      case rel =>
        have hm' := hm.out
        subst hm'
        refine ⟨k + 1, by simp, by omega, by rw [← ms_snoc klt]; exact o4, ?_, ?_⟩
        · rw [← rot2 klt]
          exact (q3.out.keep (ext_alloc w3 _)).own oB.out (by decide) g4
        · have b := (Below.refl w.heap.size w3).alloc sz3 (.cells #[.string l[k].a0, .string l[k].a1, .int .i64 l[k].a2, .bool l[k].a3] 46)
          exact grown_below G5.out (b.grown g4 (by simp; omega) (fun j hj => (oB.out.lt j hj).1))
      case measure => simp [intOf]; omega
end
end Go.Proofs.Ytdcfenkllpfbaaa.Quu

/-
  LAYER 27: All, Find, and two lists compared.
-/
import Derived.Test.YtfdaooaooalknaaPc
import Derived.Test.YtfdaooaooalknaaTd
import Derived.Test.YtfdaooaooalknaaNa
import Derived.Deep.QuietTactic
import Derived.BigQuiet
namespace Go.Proofs.Ytfdaooaooalknaa
set_option linter.unusedVariables false
set_option linter.unusedSimpArgs false
open Go.RowKit Go.Maps Go.WideMaps
theorem ms_get {w : World} {v : Value} {l : List Mg} (h : MsAt w v l) {k : Nat} {f : Mg} (hf : l[k]? = some f) {wr : World} (hb : Below w.heap.size w wr) : ∃ b o c, v = .slice (some ⟨b, o, none⟩) l.length c ∧ wr.cell? ⟨b, o + k * 4, none⟩ = some (.string f.a0) ∧ wr.cell? ⟨b, o + k * 4 + 1, none⟩ = some (.string f.a1) ∧ wr.cell? ⟨b, o + k * 4 + 2, none⟩ = some (.int .i64 f.a2) ∧ wr.cell? ⟨b, o + k * 4 + 3, none⟩ = some (.bool f.a3) := by
  obtain ⟨a, cap, rfl, -, hc⟩ := h
  obtain ⟨b, o, rfl, -, c0, c1, c2, c3⟩ := msAt_at hf hb hc
  exact ⟨b, o, cap, rfl, c0, c1, c2, c3⟩
theorem same_eq {w : World} {v1 v2 : Value} {l : List Mg} (h1 : MsAt w v1 l) (h2 : MsAt w v2 l) (hl : l.length ≤ 100000) : Calls Try.prog 11 #[v1, v2] w (Yes w) := by
  obtain ⟨a1, p1, e1, -, -⟩ := id h1
  obtain ⟨a2, p2, e2, -, -⟩ := id h2
  subst e1 e2
  have H1 := Lib.hid h1
  have H2 := Lib.hid h2
  have hl' : (l.length : Int) ≤ 100000 := by omega
  clear h1 h2
  go_enter Try.func11, Try.ntmps11
  go_wp2
  go_loopw [5] (fun iv wr => ∃ k : Nat, iv = .int .i64 (k : Int) ∧ k ≤ l.length ∧ Below w.heap.size w wr) (fun iv _ => l.length - (intOf iv).toNat)
  case atStart => exact ⟨0, rfl, by omega, Below.refl _ _⟩
  case round =>
    obtain ⟨k, rfl, hk, hb⟩ := hrel
    by_cases hend : k = l.length
    · subst hend
      replace hb := Lib.hid hb
      go_wp2
      go_ret
      exact ⟨rfl, hb.out⟩
    · have klt : k < l.length := by omega
      have klt' : (k : Int) < (l.length : Int) := by omega
      obtain ⟨f, hf⟩ : ∃ f, l[k]? = some f := ⟨_, List.getElem?_eq_getElem klt⟩
      obtain ⟨b, o, c, hv, x0, x1, x2, x3⟩ := ms_get H1.out hf hb
      obtain ⟨b', o', c', hv', y0, y1, y2, y3⟩ := ms_get H2.out hf hb
      simp only [Value.slice.injEq] at hv hv'
      obtain ⟨rfl, -, rfl⟩ := hv
      obtain ⟨rfl, -, rfl⟩ := hv'
      replace hb := Lib.hid hb
      replace hf := Lib.hid hf
      clear hend
      go_wp2_with fail
      go_quiet (fail)
      go_wp2_with fail
      go_roundw
      case rel => exact ⟨k + 1, by simp, by omega, below_drewN hb.out _⟩
      case measure => simp [intOf]; omega
theorem match_far (F t : ByteArray) (w : World) (hF : F.size ≤ 140737488351232) (ht : t.size ≤ 1048576) : Calls Try.prog 16 #[.string F, .string t] w (BoolIs (matchB F t) w) := by
  by_cases h : F.size ≤ 1048576
  · exact match_any F t w h ht
  have ef : filterB F = false := by
    unfold filterB fitsB
    rw [decide_eq_false (p := F.size ≤ 96) (by omega)]; simp
  have e : matchB F t = false := by unfold matchB; rw [ef]; rfl
  rw [e]
  have FF : ∀ W, Calls Try.prog 25 #[.string F] W (BoolIs false W) := fun W => by
    have K := Lib.hid (far_fits F W (by omega) hF)
    clear hF h ef e
    go_enter Try.func25, Try.ntmps25
    go_wp2_with fail
    refine K.out.mono ?_
    rintro e w1 ⟨rfl, b1⟩
    go_wp2_with fail
    go_ret
    exact ⟨rfl, b1⟩
  replace FF := Lib.hid FF
  clear hF h ef e ht
  go_enter Try.func16, Try.ntmps16
  go_wp2_with fail
  refine (FF.out _).mono ?_
  rintro e w1 ⟨rfl, b1⟩
  go_wp2_with fail
  go_ret
  exact ⟨rfl, b1⟩
theorem clo_all (t : ByteArray) (W : World) : Calls Try.prog 24 #[.string t] W (BoolIs true W) := by
  go_enter Try.func24, Try.ntmps24
  go_wp2_with fail
  go_ret
  exact ⟨rfl, Below.refl _ _⟩
theorem clo_find (F t : ByteArray) (bx : Nat) (W : World) (hF : F.size ≤ 140737488351232) (ht : t.size ≤ 96) (hc : W.cell? ⟨bx, 0, none⟩ = some (.string F)) : Calls Try.prog 22 #[.string t, .pointer (some ⟨bx, 0, none⟩)] W (BoolIs (matchB F t) W) := by
  have M := Lib.hid (match_far F t W hF (by omega))
  generalize matchB F t = r at *
  go_enter Try.func22, Try.ntmps22
  go_wp2_with fail
  refine M.out.mono ?_
  rintro e w1 ⟨rfl, b1⟩
  go_wp2_with fail
  go_ret
  exact ⟨rfl, b1⟩
theorem all_any (w : World) (p g n : Nat) (D : DataW Value) (h : Sv w p g n D) (hg : Good D) : Calls Try.prog 14 #[.pointer (some ⟨p, 0, none⟩)] w (PickIs w D (fun _ => true)) := by
  have K := Lib.hid (pick_any w p g n D (fun _ => true) 24 #[] h hg (.inl ⟨rfl, rfl⟩) (fun W _ t _ => clo_all t W))
  clear h hg
  go_enter Try.func14, Try.ntmps14
  go_wp2_with fail
  refine K.out.mono ?_
  rintro e w1 ⟨v, L, rfl, m1, l1, b1⟩
  replace m1 := Lib.hid m1
  replace l1 := Lib.hid l1
  replace b1 := Lib.hid b1
  go_wp2_with fail
  go_ret
  exact ⟨v, L, rfl, m1.out, l1.out, b1.out⟩
theorem find_any (w : World) (p g n : Nat) (D : DataW Value) (F : ByteArray) (h : Sv w p g n D) (hg : Good D) (hF : F.size ≤ 140737488351232) : Calls Try.prog 12 #[.pointer (some ⟨p, 0, none⟩), .string F] w (PickIs w D (matchB F)) := by
  have hmf : ∀ (fn : Fn) (first cap : Array Value) (w : World), (Instr.makeFunc fn first cap).run Try.prog w = .ok (.func fn first cap) w := fun _ _ _ _ => rfl
  have b0 := ext_alloc w (.cells #[.string F] 9)
  have cb : (w.alloc (.cells #[.string F] 9)).cell? ⟨w.heap.size, 0, none⟩ = some (.string F) := by rw [World.cell?_alloc_at _ _ _ _ rfl]; rfl
  have K := Lib.hid (pick_any _ p g n D (matchB F) 22 #[.pointer (some ⟨w.heap.size, 0, none⟩)] (h.keep b0) hg (.inr ⟨_, rfl, rfl⟩) (fun W hW t ht => clo_find F t _ W hF ht ((hW.cell (by simp)).trans cb)))
  replace b0 := Lib.hid b0
  clear h hg cb
  go_enter Try.func12, Try.ntmps12
  go_wp2_with fail
  refine K.out.mono ?_
  rintro e w1 ⟨v, L, rfl, m1, l1, b1⟩
  replace m1 := Lib.hid m1
  replace l1 := Lib.hid l1
  have b2 := Lib.hid (ext_trans b0.out b1)
  clear b0 b1 K
  go_wp2_with fail
  go_ret
  exact ⟨v, L, rfl, m1.out, l1.out, b2.out⟩
end Go.Proofs.Ytfdaooaooalknaa

/-
  LAYER 34: the document's Take, walked.
-/
import Derived.Test.YtdljddghbkcddaaHk
namespace Go.Proofs.Ytdljddghbkcddaa.Hst
open Go.RowKit Go.Maps Go.WideMaps
section
variable {B : Nat} {w w' : World} {x : Nat} {v : Value} {L : List Host}
theorem own_cap {e size n g c : Nat} {xs : List Value} (h : w.ownsRow B e size (.slice (some ⟨g, 0, none⟩) n c) n xs) : n ≤ c ∧ c ≤ maxLen := by
  rcases h.2 with ⟨h, -⟩ | ⟨g', cap, cur, hv, _, _, h1, h2, _⟩
  · cases h
  · simp only [Value.slice.injEq] at hv
    obtain ⟨-, -, rfl⟩ := hv
    exact ⟨h1, h2⟩
set_option maxRecDepth 100000 in
theorem xtake_name (t : ByteArray) (x : Nat) (w : World) : Calls Try.prog 22 #[.pointer (some ⟨x, 0, none⟩), .string { data := #[] }, .string t] w fun e w' => e = .returned (.int .i64 7) ∧ w = w' := by
  go_enter Try.func22, Try.ntmps22
  go_wp2
  go_ret
  exact ⟨rfl, rfl⟩
set_option maxRecDepth 100000 in
theorem xtake_text (k t : ByteArray) (x : Nat) (w : World) (hk : k.toList.isEmpty = false) (hb : Bad t) : Calls Try.prog 22 #[.pointer (some ⟨x, 0, none⟩), .string k, .string t] w fun e w' => e = .returned (.int .i64 3) ∧ w = w' := by
  obtain ⟨h1, h2⟩ := hb
  go_enter Try.func22, Try.ntmps22
  go_wp2
  go_ret
  exact ⟨rfl, rfl⟩
set_option maxHeartbeats 4000000 in
set_option maxRecDepth 100000 in
theorem xtake_known (h : Xh B w x v L) (hL : L.length ≤ 4) {k : ByteArray} (hk : k.toList.isEmpty = false) (on : Bool) {e : Host} (he : L[px L k]? = some e) (hek : e.1 = k) :
    Calls Try.prog 22 #[.pointer (some ⟨x, 0, none⟩), .string k, .string (tOf on)] w fun y w' => y = .returned (.int .i64 1) ∧ ∃ v', XNw B w w' x v (L.set (px L k) (e.1, on)) v' := by
  have hpl := (List.getElem?_eq_some_iff.1 he).1
  obtain ⟨gb, cb, hv⟩ := own_slice' h.its (by omega)
  have c0 := h.c0
  rw [hv] at c0
  have f1 := h.fzr hv (px L k * 2 + 1)
  obtain ⟨cc0, cc1⟩ := h.at hv he
  have hpl' : (px L k : Int) < (L.length : Int) := by omega
  have hL' : (L.length : Int) ≤ 4 := by omega
  have Z := Lib.hid (h.storeT hv he on)
  have LO : Hid (∀ i, i < px L k → ∃ n : ByteArray, w.cell? ⟨gb, i * 2, none⟩ = some (.string n) ∧ Op.bytesLess n.toList k.toList = true) := Lib.hid fun i hi => by
    obtain ⟨y, hy⟩ : ∃ y, L[i]? = some y := ⟨_, List.getElem?_eq_getElem (by omega)⟩
    exact ⟨y.1, (h.at hv hy).1, px_lo hi hy⟩
  have hl2 := px_hit he
  rw [hek] at cc0 hl2
  have hself : (k.toList == k.toList) = true := by simp
  generalize px L k = p at *
  clear h he hv
  unfold tOf tON tOFF
  cases on
  all_goals
    simp only [if_true, Bool.false_eq_true, if_false] at *
    go_enter Try.func22, Try.ntmps22
    go_wp2_with fail
    go_loopw [7] (fun iv wr => ∃ i : Nat, iv = .int .i64 (i : Int) ∧ i ≤ p ∧ w = wr) (fun iv _ => L.length - (intOf iv).toNat)
    case atStart => exact ⟨0, rfl, by omega, rfl⟩
    case round =>
      obtain ⟨i, rfl, hi, rfl⟩ := hrel
      by_cases hq : i < p
      · obtain ⟨n, q0, q1⟩ := LO.out i hq
        have hlt' : (i : Int) < (L.length : Int) := by omega
        go_wp2_with fail
        go_roundw
        case rel => exact ⟨i + 1, by simp, by omega, trivial⟩
        case measure => simp [intOf]; omega
      · obtain rfl : i = p := by omega
        clear hq hi
        go_wp2
        go_ret
        exact ⟨rfl, v, Z.out⟩
end
end Go.Proofs.Ytdljddghbkcddaa.Hst

/-
  LAYER 21: heap.Push, heap.Pop.
-/
import Derived.Test.YtceiipcdkonnlaaIf
namespace Go.Proofs.Ytceiipcdkonnlaa.Ids
set_option linter.unusedSimpArgs false
set_option linter.unusedVariables false
open Go.RowKit Que Hp
theorem at_left {A C : List Int} {i : Nat} (h : i < A.length) : at' (A ++ C) i = at' A i := by unfold at'; simp [List.getD_eq_getElem?_getD, List.getElem?_append_left h]
theorem at_take {G : List Int} {n i : Nat} (h : i < n) : at' (G.take n) i = at' G i := by unfold at'; simp [List.getD_eq_getElem?_getD, List.getElem?_take, h]
theorem up_snoc {H : List Int} (h : HeapP H H.length) (x : Int) : Up (H ++ [x]) (H ++ [x]).length H.length := by
  have e : (H ++ [x]).length = H.length + 1 := by simp
  refine ⟨by omega, fun i h0 hi hne => ?_, fun i h0 hi hp hj => by omega⟩
  rw [at_left (by omega), at_left (by omega)]
  exact h i h0 (by omega)
theorem dn_swap {H : List Int} {n : Nat} (h : HeapP H H.length) (hl : H.length = n + 1) (hn : 0 < n) : Dn (sw H 0 n) n 0 := by
  have S := sw_at (H := H) (i := 0) (j := n) (by omega) (by omega)
  refine ⟨fun i h0 hi hp => ?_, fun i h0 hi hp hj => by omega⟩
  rw [S, S, if_neg (by omega), if_neg (by omega), if_neg (by omega), if_neg (by omega)]
  exact h i h0 (by omega)
section
variable {B : Nat} {w w' : World} {g : Nat} {most c : Int} {tv bv : Value} {T : List Bool} {H : List Int}
theorem Id.nb_lt (h : Id B w g most tv T bv H c) {k : Nat} (hk : bv.ownBlock = some k) : k < w.heap.size := (h.bk.lt k hk).2
def HPush (B : Nat) (w : World) (g : Nat) (most : Int) (tv : Value) (T : List Bool) (bv : Value) (H : List Int) (c : Int) (x : Int) (w' : World) : Prop :=
  ∃ bv' G, List.Perm G (H ++ [x]) ∧ HeapP G G.length ∧ INew B w w' g most tv T bv G c bv'
set_option maxHeartbeats 4000000 in
set_option maxRecDepth 100000 in
theorem hpush_any (h : Id B w g most tv T bv H c) (hp : HeapP H H.length) (x : Int) (hl : H.length ≤ 500) (hB : B ≤ w.heap.size) :
    Calls Try.prog 82 #[.iface 120 (.pointer (some ⟨g, 2, none⟩)), .iface 3 (.int .i64 x)] w fun e w' => e = .returned (.tuple #[]) ∧ HPush B w g most tv T bv H c x w' := by
  have km := m_push
  have P := Lib.hid (lpush_any h x (by omega) hB)
  have U := Lib.hid (up_snoc hp x)
  have hl2 : (H.length : Int) ≤ 500 := by omega
  clear h hp
  go_enter Try.func82, Try.ntmps82
  go_wp2_with fail
  refine P.out.mono ?_
  rintro e w1 ⟨rfl, b1, n1⟩
  have kl := m_len g w1 _ n1.i.c2
  obtain ⟨a1, c1, rfl⟩ := own_slice n1.i.bk
  rw [show (H ++ [x]).length = H.length + 1 by simp] at kl
  have LL : Hid (Calls Try.prog 124 #[.slice a1 (H.length + 1) c1] w1 fun e w' => e = .returned (.int .i64 ((H.length : Int) + 1)) ∧ w1 = w') := Lib.hid (len_any (.slice a1 (H.length + 1) c1) (H.length + 1) a1 c1 rfl w1)
  have N1 := Lib.hid n1
  clear n1 P km
  go_wp2_with fail
  refine LL.out.mono ?_
  rintro e w2 ⟨rfl, rfl⟩
  have UP : Hid (Calls Try.prog 92 #[.iface 120 (.pointer (some ⟨g, 2, none⟩)), .int .i64 (H.length : Int)] w1 fun e w' => e = .returned (.tuple #[]) ∧ HPush B w g most tv T bv H c x w') := Lib.hid ((up_any N1.out.i U.out (by simp; omega)).mono fun e w' ⟨he, G, p, hh, _, i, f⟩ => ⟨he, _, G, p, by rw [p.length_eq]; exact hh, i, N1.out.far.trans f (fun k hk e => by
    rcases N1.out.nb k e with e | e
    · exact .inr e
    · omega), N1.out.nb⟩)
  clear kl LL U
  go_wp2_with fail
  refine UP.out.mono ?_
  rintro e w3 ⟨rfl, h3⟩
  have H3 := Lib.hid h3
  clear h3
  go_wp2
  go_end0
  exact ⟨rfl, H3.out⟩
end
end Go.Proofs.Ytceiipcdkonnlaa.Ids

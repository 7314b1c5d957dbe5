/-
  LAYER 4: GetRaw and Get, the program's.
-/
import Derived.Test.YtkohlbafpljfjaaUd
import Derived.WalkSmall
namespace Go.Proofs.Ytkohlbafpljfjaa
set_option linter.unusedSimpArgs false
set_option linter.unusedVariables false
open Go.RowKit

theorem BytesAt.drewN {w : World} {v : Value} {l : List Nat} (h : BytesAt w v l) (n : Nat) : BytesAt (w.drewN n) v l := by
  obtain ⟨a, cap, hv, hc, h⟩ := h
  refine ⟨a, cap, hv, hc, h.imp id ?_⟩
  rintro ⟨b, o, ha, hlt, hcell⟩
  exact ⟨b, o, ha, by simpa using hlt, fun i hi => by simpa using hcell i hi⟩
theorem BytesAt.sub {w : World} {b o n cap : Nat} {l : List Nat} (h : BytesAt w (.slice (some ⟨b, o, none⟩) n cap) l) (k m c : Nat) (hk : k + m ≤ l.length) (hm : m ≤ c) : BytesAt w (.slice (some ⟨b, o + k, none⟩) m c) ((l.drop k).take m) := by
  obtain ⟨a, cap', hv, ⟨h1, h2⟩, hc⟩ := h
  simp only [Value.slice.injEq] at hv
  obtain ⟨rfl, rfl, rfl⟩ := hv
  have hl : ((l.drop k).take m).length = m := by rw [List.length_take, List.length_drop]; omega
  refine ⟨some ⟨b, o + k, none⟩, c, by rw [hl], ⟨by omega, fun h => by cases h⟩, ?_⟩
  rcases hc with rfl | ⟨b', o', hbo, hlt, hcell⟩
  · exact .inl (by simp)
  · simp only [Option.some.injEq, Addr.mk.injEq, and_true] at hbo
    obtain ⟨rfl, rfl⟩ := hbo
    refine .inr ⟨b, o + k, rfl, hlt, fun i hi => ?_⟩
    rw [hl] at hi
    rw [Nat.add_assoc, hcell (k + i) (by omega)]
    simp [List.getD, List.getElem?_take, hi, List.getElem?_drop]

def rawV (l : List Nat) (at' : Int) : ByteArray × Int × Int :=
  if (get2V l at').2.2 ≠ 0 then (ByteArray.empty, 0, (get2V l at').2.2)
  else if (l.length : Int) - (get2V l at').2.1 < (get2V l at').1 then (ByteArray.empty, 0, 2)
  else (strB ((l.drop (get2V l at').2.1.toNat).take (get2V l at').1.toNat), (get2V l at').2.1 + (get2V l at').1, 0)
theorem get2_ok {l : List Nat} {at' : Int} (h : (get2V l at').2.2 = 0) (h256 : ∀ x ∈ l, x < 256) : ∃ k m : Nat, at' = k ∧ k + 2 ≤ l.length ∧ m ≤ 65535 ∧ get2V l at' = ((m : Int), ((k + 2 : Nat) : Int), 0) := by
  unfold get2V at *
  split at h
  · simp at h
  · split at h
    · simp at h
    · rename_i h1 h2
      obtain ⟨k, rfl⟩ := Int.eq_ofNat_of_zero_le (show 0 ≤ at' by omega)
      have hk : k + 2 ≤ l.length := by omega
      have b0 : l.getD k 0 < 256 := by
        rw [List.getD_eq_getElem?_getD, List.getElem?_eq_getElem (by omega)]; exact h256 _ (List.getElem_mem _)
      have b1 : l.getD (k + 1) 0 < 256 := by
        rw [List.getD_eq_getElem?_getD, List.getElem?_eq_getElem (by omega)]; exact h256 _ (List.getElem_mem _)
      refine ⟨k, 256 * l.getD k 0 + l.getD (k + 1) 0, rfl, hk, by omega, ?_⟩
      rw [if_neg h1, if_neg h2]
      simp
def RawPost (r : ByteArray × Int × Int) (w : World) (e : Ending) (w' : World) : Prop :=
  e = .returned (.tuple #[.string r.1, .int .i64 r.2.1, .int .i64 r.2.2]) ∧ ∃ n, w' = w.drewN n
set_option maxHeartbeats 1000000 in
set_option maxRecDepth 100000 in
theorem getraw_any (v : Value) (l : List Nat) (at' : Int) (w : World) (hb : BytesAt w v l) (h256 : ∀ x ∈ l, x < 256) (hl : l.length ≤ 140737488355328) (b : -9223372036854775808 ≤ at' ∧ at' ≤ 9223372036854775807) :
    Calls Try.prog 61 #[v, .int .i64 at'] w (RawPost (rawV l at') w) := by
  have G := get2_any v l at' w hb h256 hl b
  by_cases h0 : (get2V l at').2.2 = 0
  · obtain ⟨k, m, rfl, hk, hm, e⟩ := get2_ok h0 h256
    rw [e] at G
    have er : rawV l k = if (l.length : Int) - ((k + 2 : Nat) : Int) < m then (ByteArray.empty, 0, 2) else (strB ((l.drop (k + 2)).take m), ((k + 2 : Nat) : Int) + m, 0) := by
      unfold rawV; rw [e]; simp only [ne_eq, not_true, if_false, Int.toNat_natCast]
    obtain ⟨n, hn⟩ : ∃ n, n = l.length := ⟨_, rfl⟩
    have hk' : ((k + 2 : Nat) : Int) ≤ n := by omega
    have hm' : (m : Int) ≤ 65535 := by omega
    obtain ⟨a, cap, rfl, hcap, hc⟩ := id hb
    rw [← hn] at er hcap hl G ⊢
    have hn2 : (n : Int) ≤ 140737488355328 := by omega
    obtain ⟨bb, o, rfl⟩ : ∃ bb o, a = some ⟨bb, o, none⟩ := by
      rcases hc with rfl | ⟨bb, o, rfl, _⟩
      · simp at hn; omega
      · exact ⟨bb, o, rfl⟩
    obtain ⟨q, hq⟩ : ∃ q, q = k + 2 := ⟨_, rfl⟩
    rw [← hq] at er G hk' hk
    have hn3 := Lib.hid hn
    replace G := Lib.hid G
    by_cases hlt : (n : Int) - q < m
    · rw [if_pos hlt] at er
      rw [er]
      clear er e hq hn hc hb h256 h0
      go_enter Try.func61, Try.ntmps61
      go_wp2_with (go_at_call 52; refine G.out.mono ?_; rintro e w' ⟨rfl, nq, rfl⟩)
      go_ret3
      exact ⟨rfl, nq, rfl⟩
    · rw [if_neg hlt] at er
      rw [er]
      have hqm : q + m ≤ n := by omega
      have hqm' : (q : Int) + m ≤ n := by omega
      have hcp : n ≤ cap := hcap.1
      have hcp' : (q : Int) + m ≤ cap := by omega
      clear e hq hn hc h0 hlt er
      by_cases hcq : cap = q
      · obtain rfl : m = 0 := by omega
        subst hcq
        have HB : BytesAt w (.slice (some ⟨bb, o, none⟩) 0 0) ((l.drop cap).take 0) := ⟨some ⟨bb, o, none⟩, 0, rfl, ⟨by simp, fun h => by cases h⟩, .inl rfl⟩
        have kc : ∀ nq, (convert 23 9 (.slice (some ⟨bb, o, none⟩) 0 0)).run Try.prog (w.drewN nq) = _ := fun nq => (HB.drewN nq).conv (P := Try.prog) Try.underlying23 Try.underlying5 Try.underlying9
        clear HB hb
        go_enter Try.func61, Try.ntmps61
        go_wp2_with (go_at_call 52; refine G.out.mono ?_; rintro e w' ⟨rfl, nq, rfl⟩)
        go_ret3
        exact ⟨by simp, nq, rfl⟩
      · have HB := hb.sub q m (cap - q) (by rw [← hn3.out]; omega) (by omega)
        have kc : ∀ nq, (convert 23 9 (.slice (some ⟨bb, o + q, none⟩) m (cap - q))).run Try.prog (w.drewN nq) = _ := fun nq => (HB.drewN nq).conv (P := Try.prog) Try.underlying23 Try.underlying5 Try.underlying9
        have hcq1 : q < cap := by omega
        have hcq2 : (q : Int) < cap := by omega
        generalize strB ((l.drop q).take m) = S at *
        clear HB hb hcq
        go_enter Try.func61, Try.ntmps61
        go_wp2_with (go_at_call 52; refine G.out.mono ?_; rintro e w' ⟨rfl, nq, rfl⟩)
        go_ret3
        exact ⟨by simp, nq, rfl⟩
  · obtain ⟨x, hx⟩ : ∃ x, (get2V l at').2.2 = x := ⟨_, rfl⟩
    have er : rawV l at' = (ByteArray.empty, 0, x) := by unfold rawV; rw [if_pos h0, hx]
    rw [er]
    rw [hx] at G h0
    have h0' : (x != 0) = true := by simpa using h0
    replace G := Lib.hid G
    clear er hx h0
    go_enter Try.func61, Try.ntmps61
    go_wp2_with (go_at_call 52; refine G.out.mono ?_; rintro e w' ⟨rfl, nq, rfl⟩)
    go_ret3
    exact ⟨rfl, nq, rfl⟩

def getV (l : List Nat) (at' : Int) : ByteArray × Int × Int :=
  if (rawV l at').2.2 = 0 ∧ rightB (rawV l at').1 = false then (ByteArray.empty, 0, 9) else rawV l at'
def GetPost (r : ByteArray × Int × Int) (w : World) (e : Ending) (w' : World) : Prop :=
  e = .returned (.tuple #[.string r.1, .int .i64 r.2.1, .int .i64 r.2.2]) ∧ Below w.heap.size w w'
set_option maxHeartbeats 1000000 in
set_option maxRecDepth 100000 in
theorem get_any (v : Value) (l : List Nat) (at' : Int) (w : World) (hb : BytesAt w v l) (h256 : ∀ x ∈ l, x < 256) (hl : l.length ≤ 140737488355328) (b : -9223372036854775808 ≤ at' ∧ at' ≤ 9223372036854775807) :
    Calls Try.prog 58 #[v, .int .i64 at'] w (GetPost (getV l at') w) := by
  have G := getraw_any v l at' w hb h256 hl b
  obtain ⟨a, cap, rfl, _⟩ := id hb
  unfold getV
  clear hb
  generalize rawV l at' = r at *
  obtain ⟨S, y, x⟩ := r
  unfold RawPost at G
  simp only at G ⊢
  by_cases hx : x = 0
  · subst hx
    have R := right_any S
    by_cases hr : rightB S = true
    · rw [hr] at R ⊢
      replace R := Lib.hid R
      replace G := Lib.hid G
      clear hr
      go_enter Try.func58, Try.ntmps58
      go_wp2_with (first | (go_at_call 61; refine G.out.mono ?_; rintro e w' ⟨rfl, nq, rfl⟩) | (go_at_call 48; refine (R.out _).mono ?_; rintro e w2 ⟨rfl, hb⟩))
      go_ret3
      exact ⟨by first | rfl | simp, (below_drewN (Below.refl _ _) nq).trans (hb.mono (by simp))⟩
    · have hr : rightB S = false := by simpa using hr
      rw [hr] at R ⊢
      replace R := Lib.hid R
      replace G := Lib.hid G
      clear hr
      go_enter Try.func58, Try.ntmps58
      go_wp2_with (first | (go_at_call 61; refine G.out.mono ?_; rintro e w' ⟨rfl, nq, rfl⟩) | (go_at_call 48; refine (R.out _).mono ?_; rintro e w2 ⟨rfl, hb⟩))
      go_ret3
      exact ⟨by first | rfl | simp, (below_drewN (Below.refl _ _) nq).trans (hb.mono (by simp))⟩
  · have hx' : (x == 0) = false := by simpa using hx
    rw [if_neg (by simp [hx])]
    replace G := Lib.hid G
    clear hx
    go_enter Try.func58, Try.ntmps58
    go_wp2_with (first | (go_at_call 61; refine G.out.mono ?_; rintro e w' ⟨rfl, nq, rfl⟩))
    go_ret3
    exact ⟨rfl, below_drewN (Below.refl _ _) nq⟩
end Go.Proofs.Ytkohlbafpljfjaa

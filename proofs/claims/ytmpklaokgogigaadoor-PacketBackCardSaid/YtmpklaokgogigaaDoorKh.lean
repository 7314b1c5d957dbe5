/-
  LAYER 13: there and back, plain: what was put is read again; with a byte more, or one less, it is not.
-/
import Derived.Test.YtmpklaokgogigaaDoorKa
import Derived.Test.YtmpklaokgogigaaDoorCi
namespace Go.Proofs.YtmpklaokgogigaaDoor.Con
set_option linter.unusedVariables false
set_option linter.unusedSimpArgs false
open Go.Proofs.YtmpklaokgogigaaDoor
open Go.RowKit
theorem rawL_cut (s : ByteArray) (h : s.size ≠ 0) : (rawL s).dropLast = s.size / 256 :: s.size % 256 :: (txtL s).dropLast := by
  have ht : txtL s ≠ [] := fun e => h (by rw [← txtL_length, e]; rfl)
  unfold rawL
  cases hh : txtL s with
  | nil => exact absurd hh ht
  | cons a r => rfl
theorem raw_cut (la : List Nat) (s : ByteArray) (h : s.size ≤ 65535) : rawV (la ++ (rawL s).dropLast) la.length = (ByteArray.empty, 0, 2) := by
  by_cases h0 : s.size = 0
  · have e : (rawL s).dropLast = [0] := by
      have : txtL s = [] := List.eq_nil_of_length_eq_zero (by rw [txtL_length]; exact h0)
      unfold rawL
      rw [this, h0]
      rfl
    rw [e]
    have g : get2V (la ++ [0]) la.length = (0, 0, 2) := by
      unfold get2V
      rw [List.length_append]
      rw [if_neg (by simp; omega), if_pos (by simp; omega)]
    unfold rawV
    rw [g]
    rfl
  · rw [rawL_cut s h0]
    have hl : (txtL s).dropLast.length = s.size - 1 := by rw [List.length_dropLast, txtL_length]
    have g : get2V (la ++ s.size / 256 :: s.size % 256 :: (txtL s).dropLast) la.length = ((s.size : Int), ((la.length + 2 : Nat) : Int), 0) := by
      have g0 : (la ++ s.size / 256 :: s.size % 256 :: (txtL s).dropLast).getD la.length 0 = s.size / 256 := by simp [List.getD, List.getElem?_append]
      have g1 : (la ++ s.size / 256 :: s.size % 256 :: (txtL s).dropLast).getD (la.length + 1) 0 = s.size % 256 := by simp [List.getD, List.getElem?_append]
      unfold get2V
      rw [if_neg (by simp; omega), if_neg (by simp; omega), Int.toNat_natCast, g0, g1]
      rw [show 256 * (s.size / 256) + s.size % 256 = s.size from by omega]
      simp
    unfold rawV
    rw [g]
    have hlen : (la ++ s.size / 256 :: s.size % 256 :: (txtL s).dropLast).length = la.length + 2 + (s.size - 1) := by rw [List.length_append, List.length_cons, List.length_cons, hl]; omega
    rw [hlen]
    simp only [ne_eq, not_true, if_false]
    rw [if_pos (by omega)]
theorem get_cut (la : List Nat) (s : ByteArray) (h : s.size ≤ 65535) : getV (la ++ (rawL s).dropLast) la.length = (ByteArray.empty, 0, 2) := by
  unfold getV
  rw [raw_cut la s h]
  exact if_neg (fun x => by have := x.1; simp at this)
theorem get_ok (la lb : List Nat) (s : ByteArray) (h : s.size ≤ 65535) (hr : rightB s = true) : getV (la ++ rawL s ++ lb) la.length = (s, (((la ++ rawL s).length : Nat) : Int), 0) := by
  rw [get_mid la lb s h, if_pos hr, List.length_append, rawL_length]
theorem raw_ok (la lb : List Nat) (s : ByteArray) (h : s.size ≤ 65535) : rawV (la ++ rawL s ++ lb) la.length = (s, (((la ++ rawL s).length : Nat) : Int), 0) := by
  rw [raw_mid la lb s h, List.length_append, rawL_length]
section
variable {la lb : List Nat} {s : ByteArray} {c : Con} {q : Int} {r : Bool}
theorem pass_step {l : List Nat} (hl : l = la ++ rawL s ++ lb) (hp : c.hasP = true) (h : s.size ≤ 65535) : passV l c la.length = endV l { c with pass := s } (((la ++ rawL s).length : Nat) : Int) := by
  subst hl
  unfold passV
  rw [if_pos hp, raw_ok la lb s h]
  exact if_neg (fun x => x rfl)
theorem pass_cut {l : List Nat} (hl : l = la ++ (rawL s).dropLast) (hp : c.hasP = true) (h : s.size ≤ 65535) : passV l c la.length = (con0, 2) := by
  subst hl
  unfold passV
  rw [if_pos hp, raw_cut la s h]
  exact if_pos (by decide)
theorem pass_none {l : List Nat} {a : Int} (hp : c.hasP = false) : passV l c a = endV l c a := if_neg (by simp [hp])
theorem user_step {l : List Nat} (hl : l = la ++ rawL s ++ lb) (hu : c.hasU = true) (h : s.size ≤ 65535) (hr : rightB s = true) : userV l c la.length = passV l { c with user := s } (((la ++ rawL s).length : Nat) : Int) := by
  subst hl
  unfold userV
  rw [if_pos hu, get_ok la lb s h hr]
  exact if_neg (fun x => x rfl)
theorem user_cut {l : List Nat} (hl : l = la ++ (rawL s).dropLast) (hu : c.hasU = true) (h : s.size ≤ 65535) : userV l c la.length = (con0, 2) := by
  subst hl
  unfold userV
  rw [if_pos hu, get_cut la s h]
  exact if_pos (by decide)
theorem user_none {l : List Nat} {a : Int} (hu : c.hasU = false) : userV l c a = passV l c a := if_neg (by simp [hu])
theorem will_step {l : List Nat} {x : ByteArray} (hl : l = la ++ rawL s ++ rawL x ++ lb) (hw : c.hasW = true) (h : s.size ≤ 65535) (hr : rightB s = true) (hx : x.size ≤ 65535) : willV l c la.length q r = userV l { c with topic := s, text := x, qos := q, ret := r } (((la ++ rawL s ++ rawL x).length : Nat) : Int) := by
  subst hl
  unfold willV
  have e1 := get_ok la (rawL x ++ lb) s h hr
  rw [← List.append_assoc] at e1
  rw [if_pos hw, e1]
  simp only
  rw [raw_ok (la ++ rawL s) lb x hx]
  exact (if_neg (fun x => x rfl)).trans (if_neg (fun x => x rfl))
theorem will_cut {l : List Nat} {x : ByteArray} (hl : l = la ++ rawL s ++ (rawL x).dropLast) (hw : c.hasW = true) (h : s.size ≤ 65535) (hr : rightB s = true) (hx : x.size ≤ 65535) : willV l c la.length q r = (con0, 2) := by
  subst hl
  unfold willV
  rw [if_pos hw, get_ok la (rawL x).dropLast s h hr]
  simp only
  rw [raw_cut (la ++ rawL s) x hx]
  exact (if_neg (fun x => x rfl)).trans (if_pos (by decide))
theorem will_none {l : List Nat} {a : Int} (hw : c.hasW = false) : willV l c a q r = userV l c a := if_neg (by simp [hw])
theorem rest_step {l : List Nat} (hl : l = la ++ rawL s ++ lb) (h : s.size ≤ 65535) (hr : rightB s = true) : restV l c la.length q r = willV l { c with client := s } (((la ++ rawL s).length : Nat) : Int) q r := by
  subst hl
  unfold restV
  rw [get_ok la lb s h hr]
  exact if_neg (fun x => x rfl)
theorem rest_cut {l : List Nat} (hl : l = la ++ (rawL s).dropLast) (h : s.size ≤ 65535) : restV l c la.length q r = (con0, 2) := by
  subst hl
  unfold restV
  rw [get_cut la s h]
  exact if_pos (by decide)
theorem end_is {l : List Nat} {n : Nat} (h : l.length = n) : endV l c (n : Int) = (c, 0) := if_neg (by simp [h])
theorem end_not {l : List Nat} {n : Nat} (h : n < l.length) : endV l c (n : Int) = (con0, 4) := if_pos (by omega)
end
/-- The head: ten bytes. -/
def hdL (f n : Nat) : List Nat := [0, 4, 77, 81, 84, 84, 4, f, n / 256, n % 256]
theorem raw_mqtt : rawL mqtt = [0, 4, 77, 81, 84, 84] := by decide +kernel
theorem right_mqtt : rightB mqtt = true := by decide +kernel
theorem head_is (f n : Nat) (lb : List Nat) (hb : badF f = false) (hn : n ≤ 65535) : docV (hdL f n ++ lb) = restV (hdL f n ++ lb) { conF f with keep := (n : Int) } (((hdL f n).length : Nat) : Int) ((f / 8 % 4 : Nat) : Int) (f / 32 % 2 == 1) := by
  have hlen : (hdL f n ++ lb).length = 10 + lb.length := by simp [hdL]; omega
  have e0 : hdL f n ++ lb = [] ++ rawL mqtt ++ ([4, f, n / 256, n % 256] ++ lb) := by rw [raw_mqtt]; rfl
  have g0 : getV (hdL f n ++ lb) 0 = (mqtt, 6, 0) := by
    have := get_ok [] ([4, f, n / 256, n % 256] ++ lb) mqtt (by decide) right_mqtt
    rw [← e0] at this
    rw [show (([] : List Nat).length : Int) = 0 from rfl] at this
    rw [this, raw_mqtt]
    rfl
  have k1 : (getV (hdL f n ++ lb) 0).1 = mqtt := by rw [g0]
  have k2 : (getV (hdL f n ++ lb) 0).2.1 = 6 := by rw [g0]
  have k3 : (getV (hdL f n ++ lb) 0).2.2 = 0 := by rw [g0]
  have d := d6 k3 k1 (by rw [k2, hlen]; omega) (by rw [k2]; rfl) (by rw [k2, hlen]; omega)
  rw [d, k2]
  have hf : (hdL f n ++ lb).getD ((6 : Int).toNat + 1) 0 = f := rfl
  rw [hf]
  unfold flagV
  rw [if_neg (by simp [hb])]
  have g2 : get2V (hdL f n ++ lb) (6 + 2) = ((n : Int), 10, 0) := by
    unfold get2V
    rw [hlen, if_neg (by omega), if_neg (by omega)]
    have x0 : (hdL f n ++ lb).getD ((6 + 2 : Int).toNat) 0 = n / 256 := rfl
    have x1 : (hdL f n ++ lb).getD ((6 + 2 : Int).toNat + 1) 0 = n % 256 := rfl
    rw [x0, x1, show 256 * (n / 256) + n % 256 = n from by omega]
    rfl
  rw [g2]
  exact if_neg (fun x => x rfl)
/-- Flags, in their bits. -/
theorem flbits : ∀ (q : Fin 3) (cl hw rb hp hu : Bool), (hp = true → hu = true) → (hw = false → q.val = 0 ∧ rb = false) →
    badF (fl q cl hw rb hp hu 5) = false ∧ (fl q cl hw rb hp hu 5) / 8 % 4 = q.val ∧ ((fl q cl hw rb hp hu 5) / 32 % 2 == 1) = rb ∧ ((fl q cl hw rb hp hu 5) / 2 % 2 == 1) = cl ∧ ((fl q cl hw rb hp hu 5) / 4 % 2 == 1) = hw ∧ ((fl q cl hw rb hp hu 5) / 64 % 2 == 1) = hp ∧ decide (128 ≤ fl q cl hw rb hp hu 5) = hu := by decide +kernel
theorem conF_fl {f : Nat} {cl hw hp hu : Bool} (h1 : (f / 2 % 2 == 1) = cl) (h2 : (f / 4 % 2 == 1) = hw) (h3 : (f / 64 % 2 == 1) = hp) (h4 : decide (128 ≤ f) = hu) : conF f = { con0 with lev := 4, clean := cl, hasW := hw, hasP := hp, hasU := hu } := by
  unfold conF
  rw [h1, h2, h3, h4]
/-- Who comes, as bytes. -/
def encL (cl : Bool) (n : Nat) (id : ByteArray) (hw : Bool) (wt wx : ByteArray) (q : Nat) (rb hu : Bool) (u : ByteArray) (hp : Bool) (p : ByteArray) : List Nat :=
  hdL (fl q cl hw rb hp hu 5) n ++ rawL id ++ (if hw then rawL wt ++ rawL wx else []) ++ (if hu then rawL u else []) ++ (if hp then rawL p else [])
theorem head_fl {q : Nat} {cl hw rb hp hu : Bool} {n : Nat} {lb : List Nat} (hq : q < 3) (h1 : hp = true → hu = true) (h2 : hw = false → q = 0 ∧ rb = false) (hn : n ≤ 65535) :
    docV (hdL (fl q cl hw rb hp hu 5) n ++ lb) = restV (hdL (fl q cl hw rb hp hu 5) n ++ lb) { con0 with lev := 4, clean := cl, keep := (n : Int), hasW := hw, hasP := hp, hasU := hu } (((hdL (fl q cl hw rb hp hu 5) n).length : Nat) : Int) (q : Int) rb := by
  obtain ⟨b0, b1, b2, b3, b4, b5, b6⟩ := flbits ⟨q, hq⟩ cl hw rb hp hu h1 h2
  simp only at b0 b1 b2 b3 b4 b5 b6
  rw [head_is _ n lb b0 hn, b1, b2, conF_fl b3 b4 b5 b6]
theorem drop_app (a : List Nat) (s : ByteArray) : (a ++ rawL s).dropLast = a ++ (rawL s).dropLast := List.dropLast_append_of_ne_nil (by unfold rawL; simp)
set_option maxHeartbeats 4000000 in
/-- THERE AND BACK. -/
theorem con_back (cl : Bool) (n : Nat) (id : ByteArray) (hw : Bool) (wt wx : ByteArray) (q : Nat) (rb hu : Bool) (u : ByteArray) (hp : Bool) (p : ByteArray) (hq : q < 3) (hn : n ≤ 65535) (h1 : hp = true → hu = true)
    (h2 : hw = false → wt = ⟨#[]⟩ ∧ wx = ⟨#[]⟩ ∧ q = 0 ∧ rb = false) (h3 : hu = false → u = ⟨#[]⟩) (h4 : hp = false → p = ⟨#[]⟩)
    (i1 : id.size ≤ 65535 ∧ rightB id = true) (i2 : hw = true → (wt.size ≤ 65535 ∧ rightB wt = true) ∧ wx.size ≤ 65535) (i3 : hu = true → u.size ≤ 65535 ∧ rightB u = true) (i4 : hp = true → p.size ≤ 65535) :
    docV (encL cl n id hw wt wx q rb hu u hp p) = (⟨4, cl, n, id, hw, wt, wx, q, rb, hu, u, hp, p⟩, 0) ∧ (∀ m, docV (encL cl n id hw wt wx q rb hu u hp p ++ [m]) = (con0, 4)) ∧ docV (encL cl n id hw wt wx q rb hu u hp p).dropLast = (con0, 2) := by
  unfold encL
  have HD := fun l lb (hl : l = hdL (fl q cl hw rb hp hu 5) n ++ lb) => (congrArg docV hl).trans ((@head_fl q cl hw rb hp hu n lb hq h1 (fun x => (h2 x).2.2) hn).trans (by rw [← hl]))
  generalize hdL (fl q cl hw rb hp hu 5) n = H at *
  cases hw
  · obtain ⟨rfl, rfl, rfl, rfl⟩ := h2 rfl
    cases hu
    · obtain rfl := h3 rfl
      obtain rfl : hp = false := by cases hp with | false => rfl | true => exact absurd (h1 rfl) (by decide)
      obtain rfl := h4 rfl
      simp only [Bool.false_eq_true, if_false, if_true, List.append_nil]
      refine ⟨?_, fun m => ?_, ?_⟩
      · skip
        rw [show H ++ rawL id = H ++ rawL id from by simp only [List.append_assoc]]
        refine Eq.trans (HD _ (rawL id) (by simp only [List.append_assoc, List.append_nil])) ?_
        refine Eq.trans (rest_step (la := H) (lb := ([] : List Nat)) (by simp only [List.append_assoc, List.append_nil]) i1.1 i1.2) ?_
        refine Eq.trans (will_none rfl) ?_
        refine Eq.trans (user_none rfl) ?_
        refine Eq.trans (pass_none rfl) ?_
        exact end_is rfl
      · skip
        rw [show H ++ rawL id ++ [m] = H ++ rawL id ++ [m] from by simp only [List.append_assoc]]
        refine Eq.trans (HD _ (rawL id ++ [m]) (by simp only [List.append_assoc, List.append_nil])) ?_
        refine Eq.trans (rest_step (la := H) (lb := [m]) (by simp only [List.append_assoc, List.append_nil]) i1.1 i1.2) ?_
        refine Eq.trans (will_none rfl) ?_
        refine Eq.trans (user_none rfl) ?_
        refine Eq.trans (pass_none rfl) ?_
        exact end_not (by simp)
      · skip
        rw [show (H ++ rawL id).dropLast = H ++ (rawL id).dropLast from by first | exact drop_app _ _ | (simp only [← List.append_assoc]; exact drop_app _ _)]
        refine Eq.trans (HD _ ((rawL id).dropLast) (by simp only [List.append_assoc, List.append_nil])) ?_
        exact rest_cut (la := H) (by simp only [List.append_assoc, List.append_nil]) i1.1
    · cases hp
      · obtain rfl := h4 rfl
        simp only [Bool.false_eq_true, if_false, if_true, List.append_nil]
        refine ⟨?_, fun m => ?_, ?_⟩
        · skip
          rw [show H ++ rawL id ++ rawL u = H ++ rawL id ++ rawL u from by simp only [List.append_assoc]]
          refine Eq.trans (HD _ (rawL id ++ rawL u) (by simp only [List.append_assoc, List.append_nil])) ?_
          refine Eq.trans (rest_step (la := H) (lb := rawL u) (by simp only [List.append_assoc, List.append_nil]) i1.1 i1.2) ?_
          refine Eq.trans (will_none rfl) ?_
          refine Eq.trans (user_step (la := H ++ rawL id) (lb := ([] : List Nat)) (by simp only [List.append_assoc, List.append_nil]) rfl (i3 rfl).1 (i3 rfl).2) ?_
          refine Eq.trans (pass_none rfl) ?_
          exact end_is rfl
        · skip
          rw [show H ++ rawL id ++ rawL u ++ [m] = H ++ rawL id ++ rawL u ++ [m] from by simp only [List.append_assoc]]
          refine Eq.trans (HD _ (rawL id ++ rawL u ++ [m]) (by simp only [List.append_assoc, List.append_nil])) ?_
          refine Eq.trans (rest_step (la := H) (lb := rawL u ++ [m]) (by simp only [List.append_assoc, List.append_nil]) i1.1 i1.2) ?_
          refine Eq.trans (will_none rfl) ?_
          refine Eq.trans (user_step (la := H ++ rawL id) (lb := [m]) (by simp only [List.append_assoc, List.append_nil]) rfl (i3 rfl).1 (i3 rfl).2) ?_
          refine Eq.trans (pass_none rfl) ?_
          exact end_not (by simp)
        · skip
          rw [show (H ++ rawL id ++ rawL u).dropLast = H ++ rawL id ++ (rawL u).dropLast from by first | exact drop_app _ _ | (simp only [← List.append_assoc]; exact drop_app _ _)]
          refine Eq.trans (HD _ (rawL id ++ (rawL u).dropLast) (by simp only [List.append_assoc, List.append_nil])) ?_
          refine Eq.trans (rest_step (la := H) (lb := (rawL u).dropLast) (by simp only [List.append_assoc, List.append_nil]) i1.1 i1.2) ?_
          refine Eq.trans (will_none rfl) ?_
          exact user_cut (la := H ++ rawL id) (by simp only [List.append_assoc, List.append_nil]) rfl (i3 rfl).1
      · simp only [Bool.false_eq_true, if_false, if_true, List.append_nil]
        refine ⟨?_, fun m => ?_, ?_⟩
        · skip
          rw [show H ++ rawL id ++ rawL u ++ rawL p = H ++ rawL id ++ rawL u ++ rawL p from by simp only [List.append_assoc]]
          refine Eq.trans (HD _ (rawL id ++ rawL u ++ rawL p) (by simp only [List.append_assoc, List.append_nil])) ?_
          refine Eq.trans (rest_step (la := H) (lb := rawL u ++ rawL p) (by simp only [List.append_assoc, List.append_nil]) i1.1 i1.2) ?_
          refine Eq.trans (will_none rfl) ?_
          refine Eq.trans (user_step (la := H ++ rawL id) (lb := rawL p) (by simp only [List.append_assoc, List.append_nil]) rfl (i3 rfl).1 (i3 rfl).2) ?_
          refine Eq.trans (pass_step (la := H ++ rawL id ++ rawL u) (lb := ([] : List Nat)) (by simp only [List.append_assoc, List.append_nil]) rfl (i4 rfl)) ?_
          exact end_is rfl
        · skip
          rw [show H ++ rawL id ++ rawL u ++ rawL p ++ [m] = H ++ rawL id ++ rawL u ++ rawL p ++ [m] from by simp only [List.append_assoc]]
          refine Eq.trans (HD _ (rawL id ++ rawL u ++ rawL p ++ [m]) (by simp only [List.append_assoc, List.append_nil])) ?_
          refine Eq.trans (rest_step (la := H) (lb := rawL u ++ rawL p ++ [m]) (by simp only [List.append_assoc, List.append_nil]) i1.1 i1.2) ?_
          refine Eq.trans (will_none rfl) ?_
          refine Eq.trans (user_step (la := H ++ rawL id) (lb := rawL p ++ [m]) (by simp only [List.append_assoc, List.append_nil]) rfl (i3 rfl).1 (i3 rfl).2) ?_
          refine Eq.trans (pass_step (la := H ++ rawL id ++ rawL u) (lb := [m]) (by simp only [List.append_assoc, List.append_nil]) rfl (i4 rfl)) ?_
          exact end_not (by simp)
        · skip
          rw [show (H ++ rawL id ++ rawL u ++ rawL p).dropLast = H ++ rawL id ++ rawL u ++ (rawL p).dropLast from by first | exact drop_app _ _ | (simp only [← List.append_assoc]; exact drop_app _ _)]
          refine Eq.trans (HD _ (rawL id ++ rawL u ++ (rawL p).dropLast) (by simp only [List.append_assoc, List.append_nil])) ?_
          refine Eq.trans (rest_step (la := H) (lb := rawL u ++ (rawL p).dropLast) (by simp only [List.append_assoc, List.append_nil]) i1.1 i1.2) ?_
          refine Eq.trans (will_none rfl) ?_
          refine Eq.trans (user_step (la := H ++ rawL id) (lb := (rawL p).dropLast) (by simp only [List.append_assoc, List.append_nil]) rfl (i3 rfl).1 (i3 rfl).2) ?_
          exact pass_cut (la := H ++ rawL id ++ rawL u) (by simp only [List.append_assoc, List.append_nil]) rfl (i4 rfl)
  · obtain ⟨⟨t1, t2⟩, x1⟩ := i2 rfl
    cases hu
    · obtain rfl := h3 rfl
      obtain rfl : hp = false := by cases hp with | false => rfl | true => exact absurd (h1 rfl) (by decide)
      obtain rfl := h4 rfl
      simp only [Bool.false_eq_true, if_false, if_true, List.append_nil]
      refine ⟨?_, fun m => ?_, ?_⟩
      · skip
        rw [show H ++ rawL id ++ (rawL wt ++ rawL wx) = H ++ rawL id ++ rawL wt ++ rawL wx from by simp only [List.append_assoc]]
        refine Eq.trans (HD _ (rawL id ++ rawL wt ++ rawL wx) (by simp only [List.append_assoc, List.append_nil])) ?_
        refine Eq.trans (rest_step (la := H) (lb := rawL wt ++ rawL wx) (by simp only [List.append_assoc, List.append_nil]) i1.1 i1.2) ?_
        refine Eq.trans (will_step (la := H ++ rawL id) (lb := ([] : List Nat)) (by simp only [List.append_assoc, List.append_nil]) rfl t1 t2 x1) ?_
        refine Eq.trans (user_none rfl) ?_
        refine Eq.trans (pass_none rfl) ?_
        exact end_is rfl
      · skip
        rw [show H ++ rawL id ++ (rawL wt ++ rawL wx) ++ [m] = H ++ rawL id ++ rawL wt ++ rawL wx ++ [m] from by simp only [List.append_assoc]]
        refine Eq.trans (HD _ (rawL id ++ rawL wt ++ rawL wx ++ [m]) (by simp only [List.append_assoc, List.append_nil])) ?_
        refine Eq.trans (rest_step (la := H) (lb := rawL wt ++ rawL wx ++ [m]) (by simp only [List.append_assoc, List.append_nil]) i1.1 i1.2) ?_
        refine Eq.trans (will_step (la := H ++ rawL id) (lb := [m]) (by simp only [List.append_assoc, List.append_nil]) rfl t1 t2 x1) ?_
        refine Eq.trans (user_none rfl) ?_
        refine Eq.trans (pass_none rfl) ?_
        exact end_not (by simp)
      · skip
        rw [show (H ++ rawL id ++ (rawL wt ++ rawL wx)).dropLast = H ++ rawL id ++ rawL wt ++ (rawL wx).dropLast from by first | exact drop_app _ _ | (simp only [← List.append_assoc]; exact drop_app _ _)]
        refine Eq.trans (HD _ (rawL id ++ rawL wt ++ (rawL wx).dropLast) (by simp only [List.append_assoc, List.append_nil])) ?_
        refine Eq.trans (rest_step (la := H) (lb := rawL wt ++ (rawL wx).dropLast) (by simp only [List.append_assoc, List.append_nil]) i1.1 i1.2) ?_
        exact will_cut (la := H ++ rawL id) (by simp only [List.append_assoc, List.append_nil]) rfl t1 t2 x1
    · cases hp
      · obtain rfl := h4 rfl
        simp only [Bool.false_eq_true, if_false, if_true, List.append_nil]
        refine ⟨?_, fun m => ?_, ?_⟩
        · skip
          rw [show H ++ rawL id ++ (rawL wt ++ rawL wx) ++ rawL u = H ++ rawL id ++ rawL wt ++ rawL wx ++ rawL u from by simp only [List.append_assoc]]
          refine Eq.trans (HD _ (rawL id ++ rawL wt ++ rawL wx ++ rawL u) (by simp only [List.append_assoc, List.append_nil])) ?_
          refine Eq.trans (rest_step (la := H) (lb := rawL wt ++ rawL wx ++ rawL u) (by simp only [List.append_assoc, List.append_nil]) i1.1 i1.2) ?_
          refine Eq.trans (will_step (la := H ++ rawL id) (lb := rawL u) (by simp only [List.append_assoc, List.append_nil]) rfl t1 t2 x1) ?_
          refine Eq.trans (user_step (la := H ++ rawL id ++ rawL wt ++ rawL wx) (lb := ([] : List Nat)) (by simp only [List.append_assoc, List.append_nil]) rfl (i3 rfl).1 (i3 rfl).2) ?_
          refine Eq.trans (pass_none rfl) ?_
          exact end_is rfl
        · skip
          rw [show H ++ rawL id ++ (rawL wt ++ rawL wx) ++ rawL u ++ [m] = H ++ rawL id ++ rawL wt ++ rawL wx ++ rawL u ++ [m] from by simp only [List.append_assoc]]
          refine Eq.trans (HD _ (rawL id ++ rawL wt ++ rawL wx ++ rawL u ++ [m]) (by simp only [List.append_assoc, List.append_nil])) ?_
          refine Eq.trans (rest_step (la := H) (lb := rawL wt ++ rawL wx ++ rawL u ++ [m]) (by simp only [List.append_assoc, List.append_nil]) i1.1 i1.2) ?_
          refine Eq.trans (will_step (la := H ++ rawL id) (lb := rawL u ++ [m]) (by simp only [List.append_assoc, List.append_nil]) rfl t1 t2 x1) ?_
          refine Eq.trans (user_step (la := H ++ rawL id ++ rawL wt ++ rawL wx) (lb := [m]) (by simp only [List.append_assoc, List.append_nil]) rfl (i3 rfl).1 (i3 rfl).2) ?_
          refine Eq.trans (pass_none rfl) ?_
          exact end_not (by simp)
        · skip
          rw [show (H ++ rawL id ++ (rawL wt ++ rawL wx) ++ rawL u).dropLast = H ++ rawL id ++ rawL wt ++ rawL wx ++ (rawL u).dropLast from by first | exact drop_app _ _ | (simp only [← List.append_assoc]; exact drop_app _ _)]
          refine Eq.trans (HD _ (rawL id ++ rawL wt ++ rawL wx ++ (rawL u).dropLast) (by simp only [List.append_assoc, List.append_nil])) ?_
          refine Eq.trans (rest_step (la := H) (lb := rawL wt ++ rawL wx ++ (rawL u).dropLast) (by simp only [List.append_assoc, List.append_nil]) i1.1 i1.2) ?_
          refine Eq.trans (will_step (la := H ++ rawL id) (lb := (rawL u).dropLast) (by simp only [List.append_assoc, List.append_nil]) rfl t1 t2 x1) ?_
          exact user_cut (la := H ++ rawL id ++ rawL wt ++ rawL wx) (by simp only [List.append_assoc, List.append_nil]) rfl (i3 rfl).1
      · simp only [Bool.false_eq_true, if_false, if_true, List.append_nil]
        refine ⟨?_, fun m => ?_, ?_⟩
        · skip
          rw [show H ++ rawL id ++ (rawL wt ++ rawL wx) ++ rawL u ++ rawL p = H ++ rawL id ++ rawL wt ++ rawL wx ++ rawL u ++ rawL p from by simp only [List.append_assoc]]
          refine Eq.trans (HD _ (rawL id ++ rawL wt ++ rawL wx ++ rawL u ++ rawL p) (by simp only [List.append_assoc, List.append_nil])) ?_
          refine Eq.trans (rest_step (la := H) (lb := rawL wt ++ rawL wx ++ rawL u ++ rawL p) (by simp only [List.append_assoc, List.append_nil]) i1.1 i1.2) ?_
          refine Eq.trans (will_step (la := H ++ rawL id) (lb := rawL u ++ rawL p) (by simp only [List.append_assoc, List.append_nil]) rfl t1 t2 x1) ?_
          refine Eq.trans (user_step (la := H ++ rawL id ++ rawL wt ++ rawL wx) (lb := rawL p) (by simp only [List.append_assoc, List.append_nil]) rfl (i3 rfl).1 (i3 rfl).2) ?_
          refine Eq.trans (pass_step (la := H ++ rawL id ++ rawL wt ++ rawL wx ++ rawL u) (lb := ([] : List Nat)) (by simp only [List.append_assoc, List.append_nil]) rfl (i4 rfl)) ?_
          exact end_is rfl
        · skip
          rw [show H ++ rawL id ++ (rawL wt ++ rawL wx) ++ rawL u ++ rawL p ++ [m] = H ++ rawL id ++ rawL wt ++ rawL wx ++ rawL u ++ rawL p ++ [m] from by simp only [List.append_assoc]]
          refine Eq.trans (HD _ (rawL id ++ rawL wt ++ rawL wx ++ rawL u ++ rawL p ++ [m]) (by simp only [List.append_assoc, List.append_nil])) ?_
          refine Eq.trans (rest_step (la := H) (lb := rawL wt ++ rawL wx ++ rawL u ++ rawL p ++ [m]) (by simp only [List.append_assoc, List.append_nil]) i1.1 i1.2) ?_
          refine Eq.trans (will_step (la := H ++ rawL id) (lb := rawL u ++ rawL p ++ [m]) (by simp only [List.append_assoc, List.append_nil]) rfl t1 t2 x1) ?_
          refine Eq.trans (user_step (la := H ++ rawL id ++ rawL wt ++ rawL wx) (lb := rawL p ++ [m]) (by simp only [List.append_assoc, List.append_nil]) rfl (i3 rfl).1 (i3 rfl).2) ?_
          refine Eq.trans (pass_step (la := H ++ rawL id ++ rawL wt ++ rawL wx ++ rawL u) (lb := [m]) (by simp only [List.append_assoc, List.append_nil]) rfl (i4 rfl)) ?_
          exact end_not (by simp)
        · skip
          rw [show (H ++ rawL id ++ (rawL wt ++ rawL wx) ++ rawL u ++ rawL p).dropLast = H ++ rawL id ++ rawL wt ++ rawL wx ++ rawL u ++ (rawL p).dropLast from by first | exact drop_app _ _ | (simp only [← List.append_assoc]; exact drop_app _ _)]
          refine Eq.trans (HD _ (rawL id ++ rawL wt ++ rawL wx ++ rawL u ++ (rawL p).dropLast) (by simp only [List.append_assoc, List.append_nil])) ?_
          refine Eq.trans (rest_step (la := H) (lb := rawL wt ++ rawL wx ++ rawL u ++ (rawL p).dropLast) (by simp only [List.append_assoc, List.append_nil]) i1.1 i1.2) ?_
          refine Eq.trans (will_step (la := H ++ rawL id) (lb := rawL u ++ (rawL p).dropLast) (by simp only [List.append_assoc, List.append_nil]) rfl t1 t2 x1) ?_
          refine Eq.trans (user_step (la := H ++ rawL id ++ rawL wt ++ rawL wx) (lb := (rawL p).dropLast) (by simp only [List.append_assoc, List.append_nil]) rfl (i3 rfl).1 (i3 rfl).2) ?_
          exact pass_cut (la := H ++ rawL id ++ rawL wt ++ rawL wx ++ rawL u) (by simp only [List.append_assoc, List.append_nil]) rfl (i4 rfl)
end Go.Proofs.YtmpklaokgogigaaDoor.Con

/-
  LAYER 13: what Put lays, as Of reads it.
-/
namespace Go.Proofs.YtmpklaokgogigaaDoor.Con
set_option linter.unusedVariables false
set_option linter.unusedSimpArgs false
open Go.Proofs.YtmpklaokgogigaaDoor
open Go.RowKit
theorem fold_ok : ∀ (ps : List (List Nat × Int)) (S : List Nat × Int), (ps.foldl st S).2 = 0 → S.2 = 0 ∧ (∀ p ∈ ps, p.2 = 0) ∧ (ps.foldl st S).1 = S.1 ++ (ps.map (·.1)).flatten := by
  intro ps
  induction ps with
  | nil => intro S h; exact ⟨h, (fun p hp => by cases hp), by simp⟩
  | cons p r ih =>
    intro S h
    obtain ⟨h1, h2, h3⟩ := ih (st S p) h
    have hS : S.2 = 0 := by
      by_cases hh : S.2 = 0
      · exact hh
      · unfold st at h1; simp only at h1; rw [if_neg hh] at h1; exact h1
    have e : st S p = (S.1 ++ p.1, p.2) := by unfold st; rw [if_pos hS, if_pos hS]
    rw [e] at h1 h3
    refine ⟨hS, fun x hx => ?_, ?_⟩
    · rcases List.mem_cons.1 hx with rfl | hx
      · exact h1
      · exact h2 x hx
    · rw [List.foldl_cons, e, h3]
      simp
theorem fin_zero {S : List Nat × Int} (h : (YtmpklaokgogigaaDoor.fin S).2 = 0) : S.2 = 0 ∧ S.1.length ≤ 4096 ∧ (YtmpklaokgogigaaDoor.fin S).1 = S.1 := by
  unfold YtmpklaokgogigaaDoor.fin at *
  by_cases a : S.2 ≠ 0
  · rw [if_pos a] at h; exact absurd h a
  · rw [if_neg a] at h ⊢
    by_cases b : 4096 < S.1.length
    · rw [if_pos b] at h; exact absurd h (by decide)
    · rw [if_neg b] at h ⊢
      exact ⟨h, by omega, rfl⟩
theorem fin_nil {S : List Nat × Int} (h : (YtmpklaokgogigaaDoor.fin S).2 ≠ 0) : (YtmpklaokgogigaaDoor.fin S).1 = [] := by
  unfold YtmpklaokgogigaaDoor.fin at *
  by_cases a : S.2 ≠ 0
  · rw [if_pos a]
  · rw [if_neg a] at h ⊢
    by_cases b : 4096 < S.1.length
    · rw [if_pos b]
    · rw [if_neg b] at h
      exact absurd h a
theorem text_zero {s : ByteArray} (h : textE s = 0) : (s.size ≤ 65535 ∧ rightB s = true) ∧ uL s = rawL s := by
  unfold textE at h
  unfold uL
  by_cases a : 65535 < s.size
  · rw [if_pos a] at h; exact absurd h (by decide)
  · rw [if_neg a] at h ⊢
    by_cases b : rightB s = true
    · rw [if_pos b]; exact ⟨⟨by omega, b⟩, rfl⟩
    · rw [if_neg b] at h; exact absurd h (by decide)
theorem laid_zero {s : ByteArray} (h : laidE s = 0) : s.size ≤ 65535 ∧ rL s = rawL s := by
  unfold laidE at h
  unfold rL
  by_cases a : 65535 < s.size
  · rw [if_pos a] at h; exact absurd h (by decide)
  · rw [if_neg a]; exact ⟨by omega, rfl⟩
theorem rawL_lt {s : ByteArray} (h : s.size ≤ 65535) : ∀ x ∈ rawL s, x < 256 := by
  intro x hx
  unfold rawL at hx
  rcases List.mem_append.1 hx with hx | hx
  · simp at hx; omega
  · exact txt_lt s x hx
theorem encL_lt {cl : Bool} {n : Nat} {id : ByteArray} {hw : Bool} {wt wx : ByteArray} {q : Nat} {rb hu : Bool} {u : ByteArray} {hp : Bool} {p : ByteArray} (hq : q < 3) (hn : n ≤ 65535)
    (i1 : id.size ≤ 65535) (i2 : hw = true → wt.size ≤ 65535 ∧ wx.size ≤ 65535) (i3 : hu = true → u.size ≤ 65535) (i4 : hp = true → p.size ≤ 65535) : ∀ x ∈ encL cl n id hw wt wx q rb hu u hp p, x < 256 := by
  intro x hx
  have hf := fl_lt ⟨q, hq⟩ cl hw rb hp hu 5
  simp only at hf
  unfold encL at hx
  rcases List.mem_append.1 hx with hx | hx
  · rcases List.mem_append.1 hx with hx | hx
    · rcases List.mem_append.1 hx with hx | hx
      · rcases List.mem_append.1 hx with hx | hx
        · unfold hdL at hx
          simp only [List.mem_cons, List.not_mem_nil, or_false] at hx
          have : fl q cl hw rb hp hu 5 < 256 := hf
          omega
        · exact rawL_lt i1 x hx
      · cases hw
        · simp at hx
        · rw [if_pos rfl] at hx
          rcases List.mem_append.1 hx with hx | hx
          · exact rawL_lt (i2 rfl).1 x hx
          · exact rawL_lt (i2 rfl).2 x hx
    · cases hu
      · simp at hx
      · rw [if_pos rfl] at hx; exact rawL_lt (i3 rfl) x hx
  · cases hp
    · simp at hx
    · rw [if_pos rfl] at hx; exact rawL_lt (i4 rfl) x hx
theorem txtL_strB2 {L : List Nat} (h : ∀ x ∈ L, x < 256) : txtL (strB L) = L := by
  unfold txtL strB
  simp only [List.map_map]
  conv => rhs; rw [← List.map_id L]
  apply List.map_congr_left
  intro x hx
  have := h x hx
  simp; omega
/-- What was put, as it is read. -/
structure Laid (l : List Nat) (c : Con) : Prop where
  pos : 1 ≤ l.length
  len : l.length ≤ 4096
  lt : ∀ x ∈ l, x < 256
  it : docV l = (c, 0)
  more : ∀ m, docV (l ++ [m]) = (con0, 4)
  less : docV l.dropLast = (con0, 2)
theorem put_nil {L : Int} {cl : Bool} {K : Int} {id : ByteArray} {hw : Bool} {wt wx : ByteArray} {wq : Int} {wr hu : Bool} {u : ByteArray} {hp : Bool} {p : ByteArray} (h : (conP L cl K id hw wt wx wq wr hu u hp p).2 ≠ 0) : (conP L cl K id hw wt wx wq wr hu u hp p).1 = [] := by
  unfold conP at *
  by_cases a : conE L K hw wt wx wq wr hu u hp p ≠ 0
  · rw [if_pos a]
  · rw [if_neg a] at h ⊢
    exact fin_nil h
theorem put_laid {L : Int} {cl : Bool} {K : Int} {id : ByteArray} {hw : Bool} {wt wx : ByteArray} {wq : Int} {wr hu : Bool} {u : ByteArray} {hp : Bool} {p : ByteArray} (h : (conP L cl K id hw wt wx wq wr hu u hp p).2 = 0) :
    Laid (conP L cl K id hw wt wx wq wr hu u hp p).1 ⟨L, cl, K, id, hw, wt, wx, wq, wr, hu, u, hp, p⟩ := by
  by_cases a : conE L K hw wt wx wq wr hu u hp p ≠ 0
  · unfold conP at h
    rw [if_pos a] at h
    exact absurd h a
  · have e : conP L cl K id hw wt wx wq wr hu u hp p = YtmpklaokgogigaaDoor.fin (gat (cparts cl K id hw wt wx wq wr hu u hp p)) := by unfold conP; rw [if_neg a]
    rw [e] at h ⊢
    obtain ⟨f1, f2, f3⟩ := fin_zero h
    obtain ⟨rfl, k0, k1, q0, q1, d1, d2, d3, d4⟩ := conE_zero (by simpa using a)
    obtain ⟨n, rfl⟩ := Int.eq_ofNat_of_zero_le k0
    obtain ⟨q, rfl⟩ := Int.eq_ofNat_of_zero_le q0
    have hn : n ≤ 65535 := by omega
    have hq : q < 3 := by omega
    obtain ⟨-, g2, g3⟩ := fold_ok _ _ f1
    have i1 := text_zero (g2 (uL id, textE id) (by simp [cparts]))
    have i2 : hw = true → ((wt.size ≤ 65535 ∧ rightB wt = true) ∧ uL wt = rawL wt) ∧ wx.size ≤ 65535 ∧ rL wx = rawL wx := fun e => by
      subst e
      exact ⟨text_zero (g2 (uL wt, textE wt) (by simp [cparts])), laid_zero (g2 (rL wx, laidE wx) (by simp [cparts]))⟩
    have i3 : hu = true → (u.size ≤ 65535 ∧ rightB u = true) ∧ uL u = rawL u := fun e => by
      subst e
      exact text_zero (g2 (uL u, textE u) (by simp [cparts]))
    have i4 : hp = true → p.size ≤ 65535 ∧ rL p = rawL p := fun e => by
      subst e
      exact laid_zero (g2 (rL p, laidE p) (by simp [cparts]))
    have hL : (gat (cparts cl n id hw wt wx q wr hu u hp p)).1 = encL cl n id hw wt wx q wr hu u hp p := by
      refine g3.trans ?_
      unfold cparts encL hdL
      rw [Int.toNat_natCast, Int.toNat_natCast, i1.2]
      cases hw
      · cases hu
        · cases hp
          · simp
          · rw [(i4 rfl).2]; simp
        · rw [(i3 rfl).2]
          cases hp
          · simp
          · rw [(i4 rfl).2]; simp
      · rw [(i2 rfl).1.2, (i2 rfl).2.2]
        cases hu
        · cases hp
          · simp
          · rw [(i4 rfl).2]; simp
        · rw [(i3 rfl).2]
          cases hp
          · simp
          · rw [(i4 rfl).2]; simp
    obtain ⟨b1, b2, b3⟩ := con_back cl n id hw wt wx q wr hu u hp p hq hn d1 (fun x => ⟨(d2 x).1, (d2 x).2.1, by have := (d2 x).2.2.1; omega, (d2 x).2.2.2⟩) d3 d4 i1.1 (fun x => ⟨(i2 x).1.1, (i2 x).2.1⟩) (fun x => (i3 x).1) (fun x => (i4 x).1)
    have hlt := @encL_lt cl n id hw wt wx q wr hu u hp p hq hn i1.1.1 (fun x => ⟨(i2 x).1.1.1, (i2 x).2.1⟩) (fun x => (i3 x).1.1) (fun x => (i4 x).1)
    rw [f3, hL]
    rw [hL] at f2
    exact ⟨by unfold encL hdL; simp, f2, hlt, b1, b2, b3⟩
end Go.Proofs.YtmpklaokgogigaaDoor.Con

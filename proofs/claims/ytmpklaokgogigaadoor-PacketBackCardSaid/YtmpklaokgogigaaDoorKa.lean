/-
  LAYER 13: what Of reads, plain: the document's way, and the program's.
-/
import Derived.Test.YtmpklaokgogigaaDoorUm
namespace Go.Proofs.YtmpklaokgogigaaDoor.Con
set_option linter.unusedVariables false
set_option linter.unusedSimpArgs false
open Go.Proofs.YtmpklaokgogigaaDoor
open Go.RowKit
/-- Who comes. -/
structure Con where
  lev : Int
  clean : Bool
  keep : Int
  client : ByteArray
  hasW : Bool
  topic : ByteArray
  text : ByteArray
  qos : Int
  ret : Bool
  hasU : Bool
  user : ByteArray
  hasP : Bool
  pass : ByteArray
def Con.v (c : Con) : Array Value := #[.int .i64 c.lev, .bool c.clean, .int .i64 c.keep, .string c.client, .bool c.hasW, .string c.topic, .string c.text, .int .i64 c.qos, .bool c.ret, .bool c.hasU, .string c.user, .bool c.hasP, .string c.pass]
def con0 : Con := ⟨0, false, 0, ⟨#[]⟩, false, ⟨#[]⟩, ⟨#[]⟩, 0, false, false, ⟨#[]⟩, false, ⟨#[]⟩⟩
def mqtt : ByteArray := ⟨#[77, 81, 84, 84]⟩
/-- Why flags may not be. -/
def badF (f : Nat) : Bool := f % 2 == 1 || (!(f / 4 % 2 == 1) && (f / 8 % 4 != 0 || f / 32 % 2 == 1)) || f / 8 % 4 == 3 || (f / 64 % 2 == 1 && decide (f < 128))
def endV (l : List Nat) (c : Con) (at' : Int) : Con × Int := if at' ≠ l.length then (con0, 4) else (c, 0)
def passV (l : List Nat) (c : Con) (at' : Int) : Con × Int :=
  if c.hasP then (if (rawV l at').2.2 ≠ 0 then (con0, (rawV l at').2.2) else endV l { c with pass := (rawV l at').1 } (rawV l at').2.1) else endV l c at'
def userV (l : List Nat) (c : Con) (at' : Int) : Con × Int :=
  if c.hasU then (if (getV l at').2.2 ≠ 0 then (con0, (getV l at').2.2) else passV l { c with user := (getV l at').1 } (getV l at').2.1) else passV l c at'
def willV (l : List Nat) (c : Con) (at' : Int) (q : Int) (r : Bool) : Con × Int :=
  if c.hasW then
    (if (getV l at').2.2 ≠ 0 then (con0, (getV l at').2.2)
     else if (rawV l (getV l at').2.1).2.2 ≠ 0 then (con0, (rawV l (getV l at').2.1).2.2)
     else userV l { c with topic := (getV l at').1, text := (rawV l (getV l at').2.1).1, qos := q, ret := r } (rawV l (getV l at').2.1).2.1)
  else userV l c at'
def restV (l : List Nat) (c : Con) (at' : Int) (q : Int) (r : Bool) : Con × Int :=
  if (getV l at').2.2 ≠ 0 then (con0, (getV l at').2.2) else willV l { c with client := (getV l at').1 } (getV l at').2.1 q r
def conF (f : Nat) : Con := { con0 with lev := 4, clean := f / 2 % 2 == 1, hasW := f / 4 % 2 == 1, hasP := f / 64 % 2 == 1, hasU := decide (128 ≤ f) }
def flagV (l : List Nat) (f : Nat) (at' : Int) : Con × Int :=
  if badF f then (con0, 10)
  else if (get2V l at').2.2 ≠ 0 then (con0, (get2V l at').2.2)
  else restV l { conF f with keep := (get2V l at').1 } (get2V l at').2.1 ((f / 8 % 4 : Nat) : Int) (f / 32 % 2 == 1)
def docV (l : List Nat) : Con × Int :=
  if (getV l 0).2.2 ≠ 0 then (con0, (getV l 0).2.2)
  else if (getV l 0).1 ≠ mqtt then (con0, 15)
  else if (l.length : Int) ≤ (getV l 0).2.1 then (con0, 2)
  else if l.getD (getV l 0).2.1.toNat 0 ≠ 4 then ({ con0 with lev := ((l.getD (getV l 0).2.1.toNat 0 : Nat) : Int) }, 0)
  else if (l.length : Int) ≤ (getV l 0).2.1 + 1 then (con0, 2)
  else flagV l (l.getD ((getV l 0).2.1.toNat + 1) 0) ((getV l 0).2.1 + 2)
/-- A cursor. -/
structure Cu where
  at' : Int
  e : Int
def Cu.fail (c : Cu) (e : Int) : Cu := if c.e = 0 then { c with e := e } else c
/-- A reading at a cursor. -/
def rd {α : Type} (z : α) (f : Int → α × Int × Int) (c : Cu) : α × Cu :=
  if c.e ≠ 0 then (z, c) else if (f c.at').2.2 ≠ 0 then (z, { c with e := (f c.at').2.2 }) else ((f c.at').1, { c with at' := (f c.at').2.1 })
def oneV (l : List Nat) (at' : Int) : Int × Int × Int := if at' = l.length then (0, 0, 2) else (((l.getD at'.toNat 0 : Nat) : Int), at' + 1, 0)
/-- The will's Qos and whether it stays, put in at the end. -/
def wq (X : Con) (f : Nat) : Con := if X.hasW then { X with qos := ((f / 8 % 4 : Nat) : Int), ret := f / 32 % 2 == 1 } else X
def fin (X : Con) (c : Cu) (f : Nat) : Con × Int := if c.e ≠ 0 then (con0, c.e) else (wq X f, 0)
def pEnd (l : List Nat) (X : Con) (c : Cu) (f : Nat) : Con × Int := fin X (if c.at' < l.length then c.fail 4 else c) f
def pPass (l : List Nat) (X : Con) (c : Cu) (f : Nat) : Con × Int := if X.hasP then pEnd l { X with pass := (rd ⟨#[]⟩ (rawV l) c).1 } (rd ⟨#[]⟩ (rawV l) c).2 f else pEnd l X c f
def pUser (l : List Nat) (X : Con) (c : Cu) (f : Nat) : Con × Int := if X.hasU then pPass l { X with user := (rd ⟨#[]⟩ (getV l) c).1 } (rd ⟨#[]⟩ (getV l) c).2 f else pPass l X c f
def pWill (l : List Nat) (X : Con) (c : Cu) (f : Nat) : Con × Int :=
  if X.hasW then pUser l { X with topic := (rd ⟨#[]⟩ (getV l) c).1, text := (rd ⟨#[]⟩ (rawV l) (rd ⟨#[]⟩ (getV l) c).2).1 } (rd ⟨#[]⟩ (rawV l) (rd ⟨#[]⟩ (getV l) c).2).2 f else pUser l X c f
def pRest (l : List Nat) (X : Con) (c : Cu) (f : Nat) : Con × Int := pWill l { X with client := (rd ⟨#[]⟩ (getV l) c).1 } (rd ⟨#[]⟩ (getV l) c).2 f
def pKeep (l : List Nat) (X : Con) (c : Cu) (f : Nat) : Con × Int := pRest l { X with keep := (rd 0 (get2V l) c).1 } (rd 0 (get2V l) c).2 f
theorem fin_err {X : Con} {c : Cu} {f : Nat} (h : c.e ≠ 0) : fin X c f = (con0, c.e) := if_pos h
theorem rd_err {α : Type} {z : α} {g : Int → α × Int × Int} {c : Cu} (h : c.e ≠ 0) : rd z g c = (z, c) := if_pos h
theorem rd_bad {α : Type} {z : α} {g : Int → α × Int × Int} {c : Cu} (h : c.e = 0) (h2 : (g c.at').2.2 ≠ 0) : rd z g c = (z, { c with e := (g c.at').2.2 }) := by
  unfold rd; rw [if_neg (by simp [h]), if_pos h2]
theorem rd_ok {α : Type} {z : α} {g : Int → α × Int × Int} {c : Cu} (h : c.e = 0) (h2 : (g c.at').2.2 = 0) : rd z g c = ((g c.at').1, { c with at' := (g c.at').2.1 }) := by
  unfold rd; rw [if_neg (by simp [h]), if_neg (by simp [h2])]
variable {l : List Nat} {X : Con} {c : Cu} {f : Nat}
theorem pEnd_err (h : c.e ≠ 0) : pEnd l X c f = (con0, c.e) := by
  unfold pEnd
  split
  · rw [show c.fail 4 = c from if_neg h]; exact fin_err h
  · exact fin_err h
theorem pPass_err (h : c.e ≠ 0) : pPass l X c f = (con0, c.e) := by
  unfold pPass
  split
  · rw [rd_err h]; exact pEnd_err h
  · exact pEnd_err h
theorem pUser_err (h : c.e ≠ 0) : pUser l X c f = (con0, c.e) := by
  unfold pUser
  split
  · rw [rd_err h]; exact pPass_err h
  · exact pPass_err h
theorem pWill_err (h : c.e ≠ 0) : pWill l X c f = (con0, c.e) := by
  unfold pWill
  split
  · rw [rd_err h, rd_err h]; exact pUser_err h
  · exact pUser_err h
theorem pRest_err (h : c.e ≠ 0) : pRest l X c f = (con0, c.e) := by
  unfold pRest
  rw [rd_err h]; exact pWill_err h
theorem pKeep_err (h : c.e ≠ 0) : pKeep l X c f = (con0, c.e) := by
  unfold pKeep
  rw [rd_err h]; exact pRest_err h
theorem get2_in (l : List Nat) (a : Int) (h : (get2V l a).2.2 = 0) : 0 ≤ (get2V l a).2.1 ∧ (get2V l a).2.1 ≤ l.length ∧ 0 ≤ (get2V l a).1 := by
  unfold get2V at *
  split at h
  · simp at h
  · split at h
    · simp at h
    · rw [if_neg (by assumption), if_neg (by assumption)]
      simp only
      omega
theorem raw_in (l : List Nat) (a : Int) (h : (rawV l a).2.2 = 0) : 0 ≤ (rawV l a).2.1 ∧ (rawV l a).2.1 ≤ l.length := by
  unfold rawV at *
  split at h
  · exact absurd h (by assumption)
  · split at h
    · simp at h
    · rename_i h1 h2
      rw [if_neg h1, if_neg h2]
      have := get2_in l a (by simpa using h1)
      simp only
      omega
theorem get_in (l : List Nat) (a : Int) (h : (getV l a).2.2 = 0) : 0 ≤ (getV l a).2.1 ∧ (getV l a).2.1 ≤ l.length := by
  unfold getV at *
  split at h
  · simp at h
  · rw [if_neg (by assumption)]
    exact raw_in l a h
theorem wq_hasP : (wq X f).hasP = X.hasP := by unfold wq; split <;> rfl
theorem wq_hasU : (wq X f).hasU = X.hasU := by unfold wq; split <;> rfl
theorem pEnd_ok (h : c.e = 0) (ha : c.at' ≤ l.length) : pEnd l X c f = endV l (wq X f) c.at' := by
  unfold pEnd endV
  by_cases hh : c.at' < l.length
  · rw [if_pos hh, if_pos (by omega)]
    unfold Cu.fail
    rw [if_pos h, fin_err (by simp)]
  · rw [if_neg hh, if_neg (by omega)]
    unfold fin
    rw [if_neg (by simp [h])]
theorem pPass_ok (h : c.e = 0) (ha : c.at' ≤ l.length) : pPass l X c f = passV l (wq X f) c.at' := by
  unfold pPass passV
  rw [wq_hasP]
  split
  · by_cases hr : (rawV l c.at').2.2 = 0
    · rw [rd_ok h hr, if_neg (by simp [hr]), pEnd_ok (c := { c with at' := (rawV l c.at').2.1 }) h (raw_in l _ hr).2]
      congr 1
      unfold wq
      simp only
      split <;> rfl
    · rw [rd_bad h hr, if_pos hr, pEnd_err hr]
  · exact pEnd_ok h ha
theorem pUser_ok (h : c.e = 0) (ha : c.at' ≤ l.length) : pUser l X c f = userV l (wq X f) c.at' := by
  unfold pUser userV
  rw [wq_hasU]
  split
  · by_cases hr : (getV l c.at').2.2 = 0
    · rw [rd_ok h hr, if_neg (by simp [hr]), pPass_ok (c := { c with at' := (getV l c.at').2.1 }) h (get_in l _ hr).2]
      congr 1
      unfold wq
      simp only
      split <;> rfl
    · rw [rd_bad h hr, if_pos hr, pPass_err hr]
  · exact pPass_ok h ha
theorem pWill_ok (h : c.e = 0) (ha : c.at' ≤ l.length) : pWill l X c f = willV l X c.at' ((f / 8 % 4 : Nat) : Int) (f / 32 % 2 == 1) := by
  unfold pWill willV
  split
  · rename_i hw
    by_cases hr : (getV l c.at').2.2 = 0
    · rw [rd_ok h hr, if_neg (by simp [hr])]
      simp only
      by_cases hx : (rawV l (getV l c.at').2.1).2.2 = 0
      · rw [rd_ok (c := ⟨(getV l c.at').2.1, c.e⟩) h hx, if_neg (by simp [hx]), pUser_ok (c := ⟨(rawV l (getV l c.at').2.1).2.1, c.e⟩) h (raw_in l _ hx).2]
        congr 1
        unfold wq
        simp only
        rw [if_pos hw]
      · rw [rd_bad (c := ⟨(getV l c.at').2.1, c.e⟩) h hx, if_pos hx, pUser_err hx]
    · rw [rd_bad h hr, if_pos hr]
      rw [rd_err (c := { at' := c.at', e := (getV l c.at').2.2 }) hr, pUser_err hr]
  · rename_i hw
    rw [pUser_ok h ha]
    congr 1
    unfold wq
    rw [if_neg hw]
theorem pRest_ok (h : c.e = 0) : pRest l X c f = restV l X c.at' ((f / 8 % 4 : Nat) : Int) (f / 32 % 2 == 1) := by
  unfold pRest restV
  by_cases hr : (getV l c.at').2.2 = 0
  · rw [rd_ok h hr, if_neg (by simp [hr]), pWill_ok (c := { c with at' := (getV l c.at').2.1 }) h (get_in l _ hr).2]
  · rw [rd_bad h hr, if_pos hr, pWill_err hr]
theorem pKeep_ok (h : c.e = 0) : pKeep l X c f = if (get2V l c.at').2.2 ≠ 0 then (con0, (get2V l c.at').2.2) else restV l { X with keep := (get2V l c.at').1 } (get2V l c.at').2.1 ((f / 8 % 4 : Nat) : Int) (f / 32 % 2 == 1) := by
  unfold pKeep
  by_cases hr : (get2V l c.at').2.2 = 0
  · rw [rd_ok h hr, if_neg (by simp [hr]), pRest_ok (c := { c with at' := (get2V l c.at').2.1 }) h]
  · rw [rd_bad h hr, if_pos hr, pRest_err hr]
/-- The program's way, whole. -/
def pgm4 (l : List Nat) (r : Int × Cu) : Con × Int := pKeep l (conF r.1.toNat) (r.2.fail (if badF r.1.toNat then 10 else 0)) r.1.toNat
def pgm3 (l : List Nat) (r : Int × Cu) : Con × Int := if r.2.e ≠ 0 ∨ r.1 ≠ 4 then fin { con0 with lev := r.1 } r.2 0 else pgm4 l (rd 0 (oneV l) r.2)
def pgm2 (l : List Nat) (r : ByteArray × Cu) : Con × Int := pgm3 l (rd 0 (oneV l) (if r.1 ≠ mqtt then r.2.fail 15 else r.2))
def pgmV (l : List Nat) : Con × Int := pgm2 l (rd ⟨#[]⟩ (getV l) ⟨0, 0⟩)
section
variable (h : (getV l 0).2.2 = 0)
theorem d1 (h : (getV l 0).2.2 ≠ 0) : docV l = (con0, (getV l 0).2.2) := if_pos h
include h
theorem d2 (hm : (getV l 0).1 ≠ mqtt) : docV l = (con0, 15) := (if_neg (fun x => x h)).trans (if_pos hm)
theorem d3 (hm : (getV l 0).1 = mqtt) (h2 : (l.length : Int) ≤ (getV l 0).2.1) : docV l = (con0, 2) := (if_neg (fun x => x h)).trans ((if_neg (fun x => x hm)).trans (if_pos h2))
theorem d4 (hm : (getV l 0).1 = mqtt) (h2 : ¬ (l.length : Int) ≤ (getV l 0).2.1) (h4 : l.getD (getV l 0).2.1.toNat 0 ≠ 4) : docV l = ({ con0 with lev := ((l.getD (getV l 0).2.1.toNat 0 : Nat) : Int) }, 0) :=
  (if_neg (fun x => x h)).trans ((if_neg (fun x => x hm)).trans ((if_neg h2).trans (if_pos h4)))
theorem d5 (hm : (getV l 0).1 = mqtt) (h2 : ¬ (l.length : Int) ≤ (getV l 0).2.1) (h4 : l.getD (getV l 0).2.1.toNat 0 = 4) (h5 : (l.length : Int) ≤ (getV l 0).2.1 + 1) : docV l = (con0, 2) :=
  (if_neg (fun x => x h)).trans ((if_neg (fun x => x hm)).trans ((if_neg h2).trans ((if_neg (fun x => x h4)).trans (if_pos h5))))
theorem d6 (hm : (getV l 0).1 = mqtt) (h2 : ¬ (l.length : Int) ≤ (getV l 0).2.1) (h4 : l.getD (getV l 0).2.1.toNat 0 = 4) (h5 : ¬ (l.length : Int) ≤ (getV l 0).2.1 + 1) : docV l = flagV l (l.getD ((getV l 0).2.1.toNat + 1) 0) ((getV l 0).2.1 + 2) :=
  (if_neg (fun x => x h)).trans ((if_neg (fun x => x hm)).trans ((if_neg h2).trans ((if_neg (fun x => x h4)).trans (if_neg h5))))
end
theorem pgm3_err {r : Int × Cu} (h : r.2.e ≠ 0) : pgm3 l r = (con0, r.2.e) := (if_pos (.inl h)).trans (fin_err h)
theorem pgm3_lev {r : Int × Cu} (h : r.2.e = 0) (h4 : r.1 ≠ 4) : pgm3 l r = ({ con0 with lev := r.1 }, 0) := (if_pos (.inr h4)).trans ((if_neg (fun x => x h)).trans rfl)
theorem pgm3_ok {r : Int × Cu} (h : r.2.e = 0) (h4 : r.1 = 4) : pgm3 l r = pgm4 l (rd 0 (oneV l) r.2) := if_neg (fun x => x.elim (fun y => y h) (fun y => y h4))
theorem pgm2_no {r : ByteArray × Cu} (h : r.1 ≠ mqtt) : pgm2 l r = pgm3 l (rd 0 (oneV l) (r.2.fail 15)) := congrArg (fun z => pgm3 l (rd 0 (oneV l) z)) (if_pos h)
theorem pgm2_yes {r : ByteArray × Cu} (h : r.1 = mqtt) : pgm2 l r = pgm3 l (rd 0 (oneV l) r.2) := congrArg (fun z => pgm3 l (rd 0 (oneV l) z)) (if_neg (fun x => x h))
theorem one_end (k : Int) (h : k = l.length) : oneV l k = (0, 0, 2) := if_pos h
theorem one_in (k : Nat) (h : ¬ (k : Int) = l.length) : oneV l (k : Int) = (((l.getD k 0 : Nat) : Int), (k : Int) + 1, 0) := if_neg h
theorem rd_end {k : Int} (h : k = l.length) : rd 0 (oneV l) ⟨k, 0⟩ = (0, ⟨k, 2⟩) := by
  have e := one_end k h
  rw [rd_bad (c := ⟨k, 0⟩) rfl (show (oneV l k).2.2 ≠ 0 by rw [e]; decide)]
  show (0, Cu.mk k (oneV l k).2.2) = _
  rw [e]
theorem rd_one {k : Nat} (h : ¬ (k : Int) = l.length) : rd 0 (oneV l) ⟨(k : Int), 0⟩ = (((l.getD k 0 : Nat) : Int), ⟨(k : Int) + 1, 0⟩) := by
  have e := one_in k h
  rw [rd_ok (c := ⟨(k : Int), 0⟩) rfl (show (oneV l (k : Int)).2.2 = 0 by rw [e])]
  show ((oneV l (k : Int)).1, Cu.mk (oneV l (k : Int)).2.1 0) = _
  rw [e]
theorem pgm_doc (l : List Nat) : pgmV l = docV l := by
  unfold pgmV
  by_cases hr : (getV l 0).2.2 = 0
  · rw [rd_ok (c := ⟨0, 0⟩) rfl hr]
    obtain ⟨i0, i1⟩ := get_in l 0 hr
    show pgm2 l ((getV l 0).1, ⟨(getV l 0).2.1, 0⟩) = _
    by_cases hm : (getV l 0).1 = mqtt
    · rw [pgm2_yes hm]
      obtain ⟨k, hk⟩ := Int.eq_ofNat_of_zero_le i0
      show pgm3 l (rd 0 (oneV l) ⟨(getV l 0).2.1, 0⟩) = _
      by_cases h2 : (l.length : Int) ≤ (getV l 0).2.1
      · rw [d3 hr hm h2, rd_end (by omega)]
        exact pgm3_err (show (2 : Int) ≠ 0 by decide)
      · have ea : ¬ (k : Int) = l.length := by omega
        have ht : (getV l 0).2.1.toNat = k := by omega
        rw [hk, rd_one ea]
        by_cases h4 : l.getD k 0 = 4
        · rw [pgm3_ok rfl (by simp only; omega)]
          show pgm4 l (rd 0 (oneV l) ⟨(k : Int) + 1, 0⟩) = _
          by_cases h5 : (l.length : Int) ≤ (getV l 0).2.1 + 1
          · rw [d5 hr hm h2 (by rw [ht]; exact h4) h5, rd_end (by omega)]
            exact pKeep_err (show (2 : Int) ≠ 0 by decide)
          · rw [d6 hr hm h2 (by rw [ht]; exact h4) h5, ht, hk]
            rw [show (k : Int) + 1 = ((k + 1 : Nat) : Int) by omega, rd_one (by omega)]
            unfold flagV pgm4
            simp only [Int.toNat_natCast]
            generalize l.getD (k + 1) 0 = g
            rw [show ((k + 1 : Nat) : Int) + 1 = (k : Int) + 2 by omega]
            by_cases hb : badF g = true
            · rw [if_pos hb, if_pos hb]
              exact pKeep_err (show (10 : Int) ≠ 0 by decide)
            · rw [if_neg hb, if_neg hb]
              exact pKeep_ok rfl
        · rw [pgm3_lev rfl (by simp only; omega), d4 hr hm h2 (by rw [ht]; exact h4), ht]
    · rw [pgm2_no hm, d2 hr hm]
      show pgm3 l (rd 0 (oneV l) ⟨(getV l 0).2.1, 15⟩) = _
      rw [rd_err (show (15 : Int) ≠ 0 by decide)]
      exact pgm3_err (show (15 : Int) ≠ 0 by decide)
  · rw [rd_bad (c := ⟨0, 0⟩) rfl hr, d1 hr]
    have hf : (Cu.mk 0 (getV l 0).2.2).fail 15 = ⟨0, (getV l 0).2.2⟩ := if_neg hr
    rw [pgm2_no (show (⟨#[]⟩ : ByteArray) ≠ mqtt by decide)]
    show pgm3 l (rd 0 (oneV l) ((Cu.mk 0 (getV l 0).2.2).fail 15)) = _
    rw [hf, rd_err hr]
    exact pgm3_err hr
end Go.Proofs.YtmpklaokgogigaaDoor.Con

/-
  LAYER 5: fields without one number; a slice of fields that came in, with its room.
-/
import Derived.Test.YtoglgdkeknojkaaDoorAh
import Derived.Test.YtoglgdkeknojkaaDoorWo
namespace Go.Proofs.YtoglgdkeknojkaaDoor
open Go.RowKit

/-- Fields without those of one number. -/
def wo (n : Int) (l : List Fd) : List Fd := l.filter fun f => decide (f.num ≠ n)
theorem wo_snoc_in {n : Int} {l : List Fd} {f : Fd} (h : f.num ≠ n) : wo n (l ++ [f]) = wo n l ++ [f] := by simp [wo, h]
theorem wo_snoc_out {n : Int} {l : List Fd} {f : Fd} (h : f.num = n) : wo n (l ++ [f]) = wo n l := by simp [wo, h]
theorem wo_len (n : Int) (l : List Fd) : (wo n l).length ≤ l.length := List.length_filter_le _ _
theorem wo_ok {n : Int} {l : List Fd} (h : ∀ f ∈ l, f.ok) : ∀ f ∈ wo n l, f.ok := fun f hf => h f (List.mem_filter.1 hf).1
/-- What bytes are not read tells as though it were not there. -/
theorem ofVs_wo (b : Int) : ∀ (l : List Fd) (v : Va), ofVs b 6 l v = ofVs b 7 (wo (b + 6) l) v
  | [], v => rfl
  | f :: l, v => by
    by_cases h : f.num = b + 6
    · rw [ofVs_skip (by omega), show wo (b + 6) (f :: l) = wo (b + 6) l by simp [wo, h]]
      exact ofVs_wo b l v
    · rw [show wo (b + 6) (f :: l) = f :: wo (b + 6) l by simp [wo, h]]
      by_cases hin : f.num < b ∨ b + 6 - 1 < f.num
      · rw [ofVs_skip hin, ofVs_skip (by omega)]; exact ofVs_wo b l v
      · have hin' : ¬ (f.num < b ∨ b + 7 - 1 < f.num) := by omega
        by_cases hk : f.kind = vkind (f.num - b + 1)
        · by_cases hv : vmost (f.num - b + 1) < f.val
          · rw [ofVs_range hin hk hv, ofVs_range hin' hk hv]
          · rw [ofVs_take hin hk hv, ofVs_take hin' hk hv]; exact ofVs_wo b l _
        · rw [ofVs_form hin hk, ofVs_form hin' hk]
/-- A slice of fields that came in reads as fields, and has room. -/
theorem open_fdsR {H : Type} {enc : TypeId × Value → H} {w : World} {fuel : Nat} {a : Option Addr} {len cap : Nat} {x : DataW H × List MemPlace}
    (h : DataW.trod enc Tryd.prog w 0 (fun _ => true) true fuel 25 [.slice a len cap] = some x) (hs : ∀ n ∈ x.1.weights Tryd.prog 25, n ≤ 140737488351232) :
    ∃ l : List Fd, (FdsAt w (.slice a len cap) l ∧ l.length * 40 ≤ 140737488351232) ∧ ∀ f ∈ l, f.ok := by
  obtain ⟨l, h1, h2⟩ := open_fds h hs
  refine ⟨l, ⟨h1, ?_⟩, h2⟩
  obtain ⟨a', c', hv, -⟩ := h1
  simp only [Value.slice.injEq] at hv
  obtain ⟨-, hlen, -⟩ := hv
  rcases Go.Deep.open_slice Tryd.underlying25 h with ⟨hcs, hx⟩ | ⟨a', len', cap', m, n, D, Pl, hcs, -, hl, hm, hmm, rfl, hx⟩
  · simp only [List.cons.injEq, Value.slice.injEq, and_true] at hcs
    omega
  · simp only [List.cons.injEq, Value.slice.injEq, and_true] at hcs
    obtain ⟨rfl, rfl, rfl⟩ := hcs
    have := hs _ (by simp only [DataW.weights, Tryd.underlying25]; exact List.mem_cons_self)
    rw [show Tryd.prog.bytesOf 48 = 40 from by kernel_rfl] at this
    simp only [List.length_map, List.length_range] at this
    omega
def FdsR (w : World) (v : Value) (l : List Fd) : Prop := FdsAt w v l ∧ l.length * 40 ≤ 140737488351232
/-- The law's test of a value's two ways of being put. -/
theorem putVE_raw (v : Va) (n : Int) (h : ¬ (n < 1 ∨ 1000 < n)) : putVE v n true = rightE v ∧ putVE v n false = (if rightE v ≠ 0 then rightE v else if v.k = 7 then 11 else 0) := by
  unfold putVE
  rw [if_neg h, if_neg h]
  by_cases e : rightE v = 0
  · rw [if_neg (by simp [e]), if_neg (by simp [e]), e]
    simp
  · rw [if_pos e, if_pos e, if_pos e]; exact ⟨rfl, rfl⟩
end Go.Proofs.YtoglgdkeknojkaaDoor

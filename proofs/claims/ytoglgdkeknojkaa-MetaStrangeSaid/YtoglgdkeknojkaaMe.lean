/-
  LAYER 6: the document's fields, and its Put; Joined's parts.
-/
import Derived.Test.YtoglgdkeknojkaaMd
import Derived.Test.YtoglgdkeknojkaaWr
namespace Go.Proofs.Ytoglgdkeknojkaa
open Go.RowKit

def tx (num : Int) (s : ByteArray) : List Fd := if s.size = 0 then [] else [⟨num, 2, 0, s⟩]
theorem tx_le (num : Int) (s : ByteArray) : (tx num s).length ≤ 1 := by unfold tx; split <;> simp
theorem own_base {w : World} {B B' e size n : Nat} {v : Value} {xs : List Value} (h : w.ownsRow B' e size v n xs) (hB : B ≤ B') : w.ownsRow B e size v n xs := by
  refine ⟨h.1, h.2.imp id ?_⟩
  rintro ⟨g, cap, cur, hv, hg, rest⟩
  exact ⟨g, cap, cur, hv, Nat.le_trans hB hg, rest⟩
/-- What text makes: the list as it was, or with a text more. -/
def TxtF (B : Nat) (M : List Fd) (num : Int) (s : ByteArray) (w : World) (e : Ending) (w' : World) : Prop :=
  ∃ v, e = .returned v ∧ w'.ownsRow B 41 4 v (M ++ tx num s).length (fcs (M ++ tx num s)) ∧ Below w.heap.size w w'
set_option maxHeartbeats 2000000 in
set_option maxRecDepth 100000 in
theorem text38_any (v : Value) (B : Nat) (M : List Fd) (num : Int) (s : ByteArray) (w : World) (hown : w.ownsRow B 41 4 v M.length (fcs M)) (hB : B ≤ w.heap.size) (hM : M.length ≤ 10) : Calls Try.prog 38 #[v, .int .i64 num, .string s] w (TxtF B M num s w) := by
  have hv := FdsAt.of_own hown (by omega)
  obtain ⟨j0, hj, hy0, hy1, hy2⟩ := info_parts Try.info41
  replace hj := Lib.hid hj
  replace hy0 := Lib.hid hy0
  replace hy1 := Lib.hid hy1
  replace hy2 := Lib.hid hy2
  unfold TxtF tx
  by_cases h : s.size = 0
  · rw [if_pos h, List.append_nil]
    obtain rfl := size0 h
    have hv' := Lib.hid hown
    clear hown
    obtain ⟨a, c, rfl, -⟩ := hv
    replace h := Lib.hid h
    go_enter Try.func38, Try.ntmps38
    go_wp2
    go_ret
    exact ⟨_, rfl, hv'.out, Below.refl _ _⟩
  · rw [if_neg h]
    clear hown
    have h1 := size1 h
    replace h := Lib.hid h
    have own0 : (w.alloc (.cells #[] 41)).ownsRow w.heap.size 41 4 (.slice (some ⟨w.heap.size, 0, none⟩) 0 0) ([] : List Fd).length (fcs []) := World.ownsRow_lit w #[] 0 (Nat.le_refl _) (by unfold maxLen; omega) rfl
    have hA5 := hv.keep (ext_alloc w (.cells #[] 41)) (Nat.le_refl _)
    have r1 : ([] : List Fd).length + M.length ≤ 1000000 := by simp; omega
    have r2 : M.length + [(⟨num, 2, 0, s⟩ : Fd)].length ≤ 1000000 := by simp; omega
    have z5 : w.heap.size ≤ (w.alloc (.cells #[] 41)).heap.size := by simp
    have G0 := Lib.hid (ext_alloc w (.cells #[] 41))
    have hl := fun w => fds_lit w ⟨num, 2, 0, s⟩
    have hcs : (Fd.mk num 2 0 s).cells.toArray = #[.int .i64 num, .int .i64 2, .int .u64 0, .string s] := rfl
    rw [hcs] at hl
    replace hl := Lib.hid hl
    replace hcs := Lib.hid hcs
    obtain ⟨a, c, rfl, -⟩ := hv
    go_enter Try.func38, Try.ntmps38
    go_wp2_with (first
      | (at_builtin; (refine wpList_append_fds _ rfl (.tmp 10) (.tmp 11) 39 rfl w.heap.size 41 j0 _ Try.underlying39 hj.out hy0.out rfl hy1.out hy2.out _ [] M rfl own0 hA5 r1 z5 ?_); intro v3 w3 o3 g3; rw [List.nil_append] at o3; have g4 := fgrown_ext own0 g3 z5; have F3 := Lib.hid (G0.out.trans g4); have z3 : w.heap.size ≤ w3.heap.size := F3.out.size; clear own0 hA5 g3 g4)
      | (at_builtin; go_must ((refine wpList_append_fds _ rfl (.tmp 12) (.tmp 16) 39 rfl w.heap.size 41 j0 _ Try.underlying39 hj.out hy0.out rfl hy1.out hy2.out v3 M [⟨num, 2, 0, s⟩] rfl (mown_below o3 (ext_alloc _ _)) (hl.out w3) r2 (by simp; omega) ?_); intro v4 w4 o4 g4; have F4 := Lib.hid ((F3.out.trans ((ext_alloc w3 (.cells #[.int .i64 num, .int .i64 2, .int .u64 0, .string s] 41)).mono z3)).trans (fgrown_ext (mown_below o3 (ext_alloc w3 (.cells #[.int .i64 num, .int .i64 2, .int .u64 0, .string s] 41))) g4 (by simp; omega))); clear o3 g4)))
    go_ret
    exact ⟨_, rfl, own_base o4 hB, F4.out⟩
end Go.Proofs.Ytoglgdkeknojkaa

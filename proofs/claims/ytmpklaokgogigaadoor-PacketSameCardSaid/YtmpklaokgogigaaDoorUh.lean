/-
  LAYER 4: PutRaw, Put and awake, the program's.
-/
import Derived.Test.YtmpklaokgogigaaDoorUe
import Derived.Test.YtmpklaokgogigaaDoorApp
import Derived.Lib.AppendStr
import Derived.Lib.SmallJoins
namespace Go.Proofs.YtmpklaokgogigaaDoor
set_option linter.unusedSimpArgs false
set_option linter.unusedVariables false
open Go.RowKit

theorem info5 : (Tryd.prog.info? 5).map (fun i => (i.zero, i.size, i.bytes)) = some (some (.int .u8 0), 1, 1) := by kernel_rfl
/-- The bytes of a text as it is laid. -/
def txtL (s : ByteArray) : List Nat := s.data.toList.map UInt8.toNat
def rawL (s : ByteArray) : List Nat := [s.size / 256, s.size % 256] ++ txtL s
theorem bl_txt (s : ByteArray) : bl (txtL s) = Lib.strCells s := by unfold bl txtL Lib.strCells; rw [List.map_map]; rfl
theorem rawL_length (s : ByteArray) : (rawL s).length = 2 + s.size := by unfold rawL txtL; simp; omega
theorem bl_raw (s : ByteArray) : bl (rawL s) = bl [s.size / 256, s.size % 256] ++ Lib.strCells s := by
  rw [← bl_txt, ← bl_append]; rfl
theorem rawL_lt (s : ByteArray) (h : s.size ≤ 65535) : ∀ x ∈ rawL s, x < 256 := by
  intro x hx
  simp only [rawL, txtL, List.cons_append, List.nil_append, List.mem_cons, List.mem_map] at hx
  rcases hx with rfl | rfl | ⟨u, _, rfl⟩
  · omega
  · omega
  · exact UInt8.toNat_lt _

def PutPost (s : ByteArray) (w : World) (e : Ending) (w' : World) : Prop :=
  ∃ v, e = .returned (.tuple #[v, .int .i64 0]) ∧ w'.ownsRow w.heap.size 5 1 v (rawL s).length (bl (rawL s)) ∧ Below w.heap.size w w'
theorem putraw_long (s : ByteArray) (w : World) (h : 65535 < s.size) :
    Calls Tryd.prog 98 #[.string s] w fun e w' => e = .returned (.tuple #[.slice none 0 0, .int .i64 3]) ∧ w = w' := by
  have h' : (65535 : Int) < s.size := by omega
  go_enter Tryd.func98, Tryd.ntmps98
  go_wp2
  go_ret2
  exact ⟨rfl, rfl⟩
set_option maxHeartbeats 1000000 in
set_option maxRecDepth 100000 in
theorem putraw_any (s : ByteArray) (w : World) (h : s.size ≤ 65535) : Calls Tryd.prog 98 #[.string s] w (PutPost s w) := by
  have h' : (s.size : Int) ≤ 65535 := by omega
  obtain ⟨i0, hi, hz0, hz1, hz2⟩ := info_parts info5
  have hown0 : (w.alloc (.cells #[.int .u8 ((s.size / 256 : Nat) : Int), .int .u8 ((s.size % 256 : Nat) : Int)] 5)).ownsRow w.heap.size 5 1 (.slice (some ⟨w.heap.size, 0, none⟩) 2 2) 2 (bl [s.size / 256, s.size % 256]) := by
    have := World.ownsRow_lit (base := w.heap.size) (e := 5) (size := 1) w #[.int .u8 ((s.size / 256 : Nat) : Int), .int .u8 ((s.size % 256 : Nat) : Int)] 2 (by simp) (by unfold maxLen; omega) rfl
    simpa [bl] using this
  have P := put2_any s.size w h
  have hb0 : Below w.heap.size w (w.alloc (.cells #[.int .u8 ((s.size / 256 : Nat) : Int), .int .u8 ((s.size % 256 : Nat) : Int)] 5)) := ext_alloc _ _
  generalize w.alloc (.cells #[.int .u8 ((s.size / 256 : Nat) : Int), .int .u8 ((s.size % 256 : Nat) : Int)] 5) = w0 at *
  replace P := Lib.hid P
  have hs0 := hb0.size
  go_enter Tryd.func98, Tryd.ntmps98
  go_wp2_with fail
  refine P.out.mono ?_
  rintro e w' ⟨rfl, rfl⟩
  go_wp2_with (at_builtin; refine Lib.wpList_append_own_string _ rfl (.tmp 15) (.tmp 16) 48 9 rfl w.heap.size 5 i0 Tryd.underlying48 Tryd.underlying9 hi hz0 hz1 hz2 (.slice (some ⟨w.heap.size, 0, none⟩) 2 2) 2 (bl [s.size / 256, s.size % 256]) rfl hown0 s rfl (by unfold maxLen; omega) (by omega) hs0 ?_; intro v1 w1 hown1 hgrow1 hnil1)
  have hb1 : Below w.heap.size w w1 := hb0.grown hgrow1 hs0 (fun k hk => by cases hk; exact Nat.le_refl _)
  go_ret2
  refine ⟨v1, rfl, ?_, hb1⟩
  rw [bl_raw, rawL_length]
  exact hown1
theorem put_bad (s : ByteArray) (w : World) (h : s.size ≤ 65535) (hr : rightB s = false) :
    Calls Tryd.prog 96 #[.string s] w fun e w' => e = .returned (.tuple #[.slice none 0 0, .int .i64 9]) ∧ Below w.heap.size w w' := by
  have h' : (s.size : Int) ≤ 65535 := by omega
  have R := right_any s
  rw [hr] at R
  replace R := Lib.hid R
  clear hr
  go_enter Tryd.func96, Tryd.ntmps96
  go_wp2_with (go_at_call 86; refine (R.out _).mono ?_; rintro e w2 ⟨rfl, hb⟩)
  go_ret2
  exact ⟨rfl, hb⟩
theorem put_long (s : ByteArray) (w : World) (h : 65535 < s.size) :
    Calls Tryd.prog 96 #[.string s] w fun e w' => e = .returned (.tuple #[.slice none 0 0, .int .i64 3]) ∧ w = w' := by
  have h' : (65535 : Int) < s.size := by omega
  go_enter Tryd.func96, Tryd.ntmps96
  go_wp2_with (go_at_call 98; refine (putraw_long s _ h).mono ?_; rintro e w2 ⟨rfl, rfl⟩)
  go_ret2
  exact ⟨rfl, rfl⟩
theorem put_ok (s : ByteArray) (w : World) (h : s.size ≤ 65535) (hr : rightB s = true) : Calls Tryd.prog 96 #[.string s] w (PutPost s w) := by
  have h' : (s.size : Int) ≤ 65535 := by omega
  have R := right_any s
  rw [hr] at R
  replace R := Lib.hid R
  clear hr
  go_enter Tryd.func96, Tryd.ntmps96
  go_wp2_with (first | (go_at_call 86; refine (R.out _).mono ?_; rintro e w2 ⟨rfl, hb⟩) | (go_at_call 98; refine (putraw_any s _ h).mono ?_; rintro e w3 ⟨v, rfl, hown, hb3⟩))
  go_ret2
  exact ⟨v, rfl, Joins.ownsRow_le hown hb.size, ext_trans hb hb3⟩

end Go.Proofs.YtmpklaokgogigaaDoor

/-
  LAYER 4: there and back, plain.
-/
namespace Go.Proofs.YtmpklaokgogigaaDoor
set_option linter.unusedSimpArgs false
set_option linter.unusedVariables false
open Go.RowKit

theorem strB_txt (s : ByteArray) : strB (txtL s) = s := by
  obtain ⟨d⟩ := s
  unfold strB txtL
  congr 1
  rw [List.map_map]
  have : (UInt8.ofNat ∘ UInt8.toNat) = id := by funext x; simp
  rw [this]; simp
theorem txtL_length (s : ByteArray) : (txtL s).length = s.size := by unfold txtL; simp
theorem raw_mid (la lb : List Nat) (s : ByteArray) (h : s.size ≤ 65535) : rawV (la ++ rawL s ++ lb) la.length = (s, ((la.length + (2 + s.size) : Nat) : Int), 0) := by
  have hlen : (la ++ rawL s ++ lb).length = la.length + (2 + s.size) + lb.length := by simp [rawL_length]; omega
  have g0 : (la ++ rawL s ++ lb).getD la.length 0 = s.size / 256 := by
    rw [List.append_assoc]; simp [List.getD, List.getElem?_append, rawL]
  have g1 : (la ++ rawL s ++ lb).getD (la.length + 1) 0 = s.size % 256 := by
    rw [List.append_assoc]; simp [List.getD, List.getElem?_append, rawL]
  have e2 : get2V (la ++ rawL s ++ lb) la.length = ((s.size : Int), ((la.length + 2 : Nat) : Int), 0) := by
    unfold get2V
    rw [hlen, if_neg (by omega), if_neg (by omega), Int.toNat_natCast, g0, g1]
    rw [show 256 * (s.size / 256) + s.size % 256 = s.size from by omega]
    simp
  unfold rawV
  rw [e2, hlen]
  simp only [ne_eq, not_true, if_false, Int.toNat_natCast]
  rw [if_neg (by omega)]
  have : ((la ++ rawL s ++ lb).drop (la.length + 2)).take s.size = txtL s := by
    rw [List.append_assoc, List.drop_append, List.drop_eq_nil_of_le (by omega), show la.length + 2 - la.length = 2 from by omega]
    have e : rawL s ++ lb = s.size / 256 :: s.size % 256 :: (txtL s ++ lb) := rfl
    rw [e, List.nil_append, List.drop_succ_cons, List.drop_succ_cons, List.drop_zero, List.take_append_of_le_length (by rw [txtL_length]; omega), List.take_of_length_le (by rw [txtL_length]; omega)]
  rw [this, strB_txt]
  simp; omega
theorem get_mid (la lb : List Nat) (s : ByteArray) (h : s.size ≤ 65535) : getV (la ++ rawL s ++ lb) la.length = if rightB s = true then (s, ((la.length + (2 + s.size) : Nat) : Int), 0) else (ByteArray.empty, 0, 9) := by
  unfold getV
  rw [raw_mid la lb s h]
  cases rightB s <;> simp
end Go.Proofs.YtmpklaokgogigaaDoor

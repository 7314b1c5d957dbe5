/-
  LAYER 17: the law's own awake; Join of what was split.
-/
import Derived.Test.YtnlfefbeihkanaaSb
import Derived.Lib.Join
namespace Go.Proofs.Ytnlfefbeihkanaa
open Go.RowKit

theorem spl_mem : ∀ (l : List UInt8), ∀ p ∈ spl l, ∀ c ∈ p, c ∈ l
  | [], p, hp, c, hc => by simp [spl] at hp; subst hp; cases hc
  | x :: r, p, hp, c, hc => by
    rw [spl] at hp
    split at hp
    · rcases List.mem_cons.1 hp with rfl | hp
      · cases hc
      · exact List.mem_cons_of_mem _ (spl_mem r p hp c hc)
    · have ih := spl_mem r
      cases hr : spl r with
      | nil => exact absurd hr (spl_ne r)
      | cons h t =>
        rw [hr] at hp ih
        rcases List.mem_cons.1 hp with rfl | hp
        · rcases List.mem_cons.1 hc with rfl | hc
          · simp
          · exact List.mem_cons_of_mem _ (ih h (by simp) c hc)
        · exact List.mem_cons_of_mem _ (ih p (by simp [hp]) c hc)
theorem asc_part {s x : ByteArray} (h : Asc s) (hx : x ∈ spS s) : Asc x ∧ x.size ≤ s.size := by
  obtain ⟨p, hp, rfl⟩ := List.mem_map.1 hx
  refine ⟨fun c hc => h c (spl_mem _ p hp c (by rwa [bs_data] at hc)), ?_⟩
  rw [bs_size]
  have := spl_sum _ p hp
  have h2 : s.data.toList.length = s.size := Array.length_toList
  omega
theorem ca_parts {s : ByteArray} (h : Asc s) (hs : s.size ≤ 1048576) : ∀ x ∈ spS s, CA x := fun x hx => ca_asc x (asc_part h hx).1 (by have := (asc_part h hx).2; omega)
theorem k_split : (spS ⟨#[97, 47, 47, 98]⟩).length = 3 := by decide +kernel
theorem k_f1 : filterB ⟨#[97, 47, 43, 47, 35]⟩ = true := by decide +kernel
theorem k_f2 : filterB ⟨#[97, 43]⟩ = false := by decide +kernel
theorem k_n : nameB ⟨#[97]⟩ = true := by decide +kernel
theorem asc1 : Asc ⟨#[97, 47, 43, 47, 35]⟩ := by unfold Asc; decide
theorem asc2 : Asc ⟨#[97, 43]⟩ := by unfold Asc; decide
theorem asc3 : Asc ⟨#[97]⟩ := by unfold Asc; decide
def Yes' (w : World) (e : Ending) (w' : World) : Prop := e = .returned (.bool true) ∧ Below w.heap.size w w'
set_option maxHeartbeats 1000000 in
set_option maxRecDepth 100000 in
theorem awake17_any (w : World) : Calls Try.prog 10 #[] w (Yes w) := by
  have S1 := Lib.hid fun w => split_any ⟨#[97, 47, 47, 98]⟩ w (by decide)
  have F1 := Lib.hid fun w => filter_any ⟨#[97, 47, 43, 47, 35]⟩ w (by decide) (fun _ => ca_parts asc1 (by decide))
  have F2 := Lib.hid fun w => filter_any ⟨#[97, 43]⟩ w (by decide) (fun _ => ca_parts asc2 (by decide))
  have N1 := Lib.hid fun w => name_any ⟨#[97]⟩ w (by decide) (fun _ => ca_asc _ asc3 (by decide))
  rw [k_f1] at F1
  rw [k_f2] at F2
  rw [k_n] at N1
  go_enter Try.func10, Try.ntmps10
  go_wp2_with fail
  refine (S1.out _).mono ?_
  rintro e w1 ⟨v, rfl, o1, b1⟩
  rw [k_split] at o1
  obtain ⟨a, c, rfl⟩ := own_slice o1
  clear o1
  go_wp2_with fail
  refine (F1.out _).mono ?_
  rintro e w2 ⟨rfl, b2⟩
  have B2 := ext_trans b1 b2
  clear b1 b2
  go_wp2_with fail
  refine (F2.out _).mono ?_
  rintro e w3 ⟨rfl, b3⟩
  have B3 := ext_trans B2 b3
  clear B2 b3
  go_wp2_with fail
  refine (N1.out _).mono ?_
  rintro e w4 ⟨rfl, b4⟩
  go_wp2_with fail
  go_ret
  exact ⟨rfl, ext_trans B3 b4⟩
theorem lib_join : ∀ l : List (List UInt8), Lib.join l [47] = joi l
  | [] => rfl
  | [p] => by simp [Lib.join, List.intercalate, joi]
  | p :: q :: r => by
    have ih := lib_join (q :: r)
    unfold Lib.join at ih ⊢
    rw [joi, ← ih]
    simp [List.intercalate, List.intersperse]
theorem join_spS (s : ByteArray) : (⟨(Lib.join ((spS s).map (·.data.toList)) [47]).toArray⟩ : ByteArray) = s := by
  rw [lib_join]
  unfold spS
  rw [List.map_map]
  have : ((fun x : ByteArray => x.data.toList) ∘ bs) = id := by funext x; rfl
  rw [this, List.map_id, joi_spl]
theorem join_len (s : ByteArray) : (Lib.join ((spS s).map (·.data.toList)) [47]).length = s.size := by
  have := congrArg ByteArray.size (join_spS s)
  rw [← this]
  simp [ByteArray.size]
set_option maxHeartbeats 1000000 in
set_option maxRecDepth 100000 in
theorem join_own (s : ByteArray) (v : Value) (B : Nat) (w : World) (hs : s.size ≤ 1048576) (ho : w.ownsRow B 9 1 v (spS s).length (sl (spS s))) : Calls Try.prog 20 #[v] w fun e w' => e = .returned (.string s) ∧ Below w.heap.size w w' := by
  have hp := spS_pos s
  have hle := spS_le s
  obtain ⟨g, cap, rfl, -, hg, hcap, hcell⟩ := own_cells ho (by omega)
  have J := Lib.hid (Try.strings_Join g 0 cap (spS s) ⟨#[47]⟩ w (fun j x hx => by rw [Nat.zero_add]; exact hcell j x hx) hg (by omega) hcap (by rw [join_len]; omega))
  generalize hn : (spS s).length = n at *
  go_enter Try.func20, Try.ntmps20
  go_wp2_with fail
  refine (J.out).mono ?_
  rintro e w1 ⟨rfl, b1⟩
  rw [join_spS]
  go_wp2_with fail
  go_ret
  exact ⟨rfl, b1⟩
end Go.Proofs.Ytnlfefbeihkanaa

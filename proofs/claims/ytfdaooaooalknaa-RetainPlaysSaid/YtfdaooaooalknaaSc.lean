/-
  LAYER 17: the law's own awake; Join of what was split.
-/
import Derived.Test.YtfdaooaooalknaaSb
import Derived.Lib.Join
namespace Go.Proofs.Ytfdaooaooalknaa
set_option linter.unusedSimpArgs false
set_option linter.unusedVariables false
open Go.RowKit

theorem spl_mem : ∀ (l : List UInt8), ∀ p ∈ spl l, ∀ c ∈ p, c ∈ l
  | [], p, hp, c, hc => by simp [spl] at hp; subst hp; cases hc
  | x :: r, p, hp, c, hc => by
    rw [spl] at hp
    split at hp
    · rcases List.mem_cons.1 hp with rfl | hp
      · cases hc
      · exact List.mem_cons_of_mem _ (spl_mem r p hp c hc)
    · have ih := spl_mem r
      cases hr : spl r with
      | nil => exact absurd hr (spl_ne r)
      | cons h t =>
        rw [hr] at hp ih
        rcases List.mem_cons.1 hp with rfl | hp
        · rcases List.mem_cons.1 hc with rfl | hc
          · simp
          · exact List.mem_cons_of_mem _ (ih h (by simp) c hc)
        · exact List.mem_cons_of_mem _ (ih p (by simp [hp]) c hc)
theorem asc_part {s x : ByteArray} (h : Asc s) (hx : x ∈ spS s) : Asc x ∧ x.size ≤ s.size := by
  obtain ⟨p, hp, rfl⟩ := List.mem_map.1 hx
  refine ⟨fun c hc => h c (spl_mem _ p hp c (by rwa [bs_data] at hc)), ?_⟩
  rw [bs_size]
  have := spl_sum _ p hp
  have h2 : s.data.toList.length = s.size := Array.length_toList
  omega
theorem ca_parts {s : ByteArray} (h : Asc s) (hs : s.size ≤ 1048576) : ∀ x ∈ spS s, CA x := fun x hx => ca_asc x (asc_part h hx).1 (by have := (asc_part h hx).2; omega)
theorem k_split : (spS ⟨#[97, 47, 47, 98]⟩).length = 3 := by decide +kernel
theorem k_f1 : filterB ⟨#[97, 47, 43, 47, 35]⟩ = true := by decide +kernel
theorem k_f2 : filterB ⟨#[97, 43]⟩ = false := by decide +kernel
theorem k_n : nameB ⟨#[97]⟩ = true := by decide +kernel
theorem asc1 : Asc ⟨#[97, 47, 43, 47, 35]⟩ := by unfold Asc; decide
theorem asc2 : Asc ⟨#[97, 43]⟩ := by unfold Asc; decide
theorem asc3 : Asc ⟨#[97]⟩ := by unfold Asc; decide
def Yes' (w : World) (e : Ending) (w' : World) : Prop := e = .returned (.bool true) ∧ Below w.heap.size w w'
theorem lib_join : ∀ l : List (List UInt8), Lib.join l [47] = joi l
  | [] => rfl
  | [p] => by simp [Lib.join, List.intercalate, joi]
  | p :: q :: r => by
    have ih := lib_join (q :: r)
    unfold Lib.join at ih ⊢
    rw [joi, ← ih]
    simp [List.intercalate, List.intersperse]
theorem join_spS (s : ByteArray) : (⟨(Lib.join ((spS s).map (·.data.toList)) [47]).toArray⟩ : ByteArray) = s := by
  rw [lib_join]
  unfold spS
  rw [List.map_map]
  have : ((fun x : ByteArray => x.data.toList) ∘ bs) = id := by funext x; rfl
  rw [this, List.map_id, joi_spl]
theorem join_len (s : ByteArray) : (Lib.join ((spS s).map (·.data.toList)) [47]).length = s.size := by
  have := congrArg ByteArray.size (join_spS s)
  rw [← this]
  simp [ByteArray.size]
end Go.Proofs.Ytfdaooaooalknaa

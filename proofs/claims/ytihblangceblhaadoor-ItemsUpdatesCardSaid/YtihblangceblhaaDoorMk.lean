/-
  LAYER 31: awake.
-/
import Derived.Test.YtihblangceblhaaDoorMj
namespace Go.Proofs.YtihblangceblhaaDoor
set_option linter.unusedVariables false
set_option linter.unusedSimpArgs false
open Go.RowKit
theorem mts_lit (w : World) (l : List Mt) (cs : Array Value) (hcs : cs.toList = mtsAtC l) (hl : l.length ≤ 1000) : MtsAt (w.alloc (.cells cs 32)) (.slice (some ⟨w.heap.size, 0, none⟩) l.length l.length) l := by
  refine ⟨_, _, rfl, by omega, .inr ⟨w.heap.size, 0, rfl, by simp, fun i f hi j u hj => ?_⟩⟩
  have hj15 : j < 15 := (List.getElem?_eq_some_iff.1 hj).1
  rw [cell_of_row _ _ _ _ _ _ (heap_alloc_new _ _), ← Array.getElem?_toList, hcs, Nat.zero_add, mtsAtC_get l i f hi j hj15]
  exact hj
def mM (n : ByteArray) (k nn : Int) : Mt := ⟨n, false, 0, 0, 0, false, false, false, .slice none 0 0, .slice none 0 0, k, nn, ⟨#[]⟩, .slice none 0 0, .slice none 0 0⟩
def mI (n : ByteArray) (k nn : Int) : It := ⟨n, false, 0, 0, false, k, nn, ⟨#[]⟩⟩
theorem mM_ok (n : ByteArray) (k nn : Int) (hn : n.size ≤ 10) (hk : k = 0 ∨ k = 1) (hnn : nn = 0 ∨ nn = 5) : (mM n k nn).ok := by
  refine ⟨by show n.size ≤ _; omega, rfl, rfl, ?_, ?_, by show (⟨#[]⟩ : ByteArray).size ≤ _; decide, ⟨_, _, _, rfl⟩, ⟨_, _, _, rfl⟩, ⟨_, _, _, rfl⟩, ⟨_, _, _, rfl⟩⟩
  · show (Lit.int .i64 k).wf = true
    rcases hk with rfl | rfl <;> decide
  · show (Lit.int .u64 nn).wf = true
    rcases hnn with rfl | rfl <;> decide
theorem b1 : bornR [mM ⟨#[97]⟩ 0 0, mM ⟨#[98]⟩ 0 0] = ([mI ⟨#[97]⟩ 0 0, mI ⟨#[98]⟩ 0 0], 1) := by kernel_rfl
theorem u1 : updF [] ⟨#[]⟩ [mM ⟨#[98]⟩ 1 5] [mI ⟨#[97]⟩ 0 0, mI ⟨#[98]⟩ 0 0] = ([mI ⟨#[97]⟩ 0 0, mI ⟨#[98]⟩ 1 5], 1) := by kernel_rfl
theorem f1 : fnd [mI ⟨#[97]⟩ 0 0, mI ⟨#[98]⟩ 1 5] ⟨#[98]⟩ = mI ⟨#[98]⟩ 1 5 ∧ (plc [mI ⟨#[97]⟩ 0 0, mI ⟨#[98]⟩ 1 5] ⟨#[98]⟩).isSome = true := ⟨by kernel_rfl, by kernel_rfl⟩
theorem fndb (v : Value) (w : World) (h : ItsAt w v [mI ⟨#[97]⟩ 0 0, mI ⟨#[98]⟩ 1 5]) : Calls Tryd.prog 9 #[v, .string ⟨#[98]⟩] w fun e w' => e = .returned (.tuple #[.agg #[.string ⟨#[98]⟩, .bool false, .int .u64 0, .int .u32 0, .bool false, .int .i64 1, .int .u64 5, .string ⟨#[]⟩], .bool true]) ∧ Below w.heap.size w w' := by
  have F := pfind_any v _ ⟨#[98]⟩ w h
  unfold FindP at F
  rw [f1.1, f1.2] at F
  exact F
theorem born1 (v : Value) (w : World) (ht : Tabs w) (h : MtsAt w v [mM ⟨#[97]⟩ 0 0, mM ⟨#[98]⟩ 0 0]) : Calls Tryd.prog 7 #[v] w (ToldP [mI ⟨#[97]⟩ 0 0, mI ⟨#[98]⟩ 0 0] 1 w) := by
  have P := pborn_any v _ w ht h (by
    intro f hf
    simp only [List.mem_cons, List.not_mem_nil, or_false] at hf
    rcases hf with rfl | rfl <;> exact mM_ok _ _ _ (by decide) (by decide) (by decide))
  rw [b1] at P
  exact P
theorem upd1 {g m : Nat} {D : DataW Unit} (v mv : Value) (w : World) (ht : Tabs w) (h : ItsAt w v [mI ⟨#[97]⟩ 0 0, mI ⟨#[98]⟩ 0 0]) (hm : MtsAt w mv [mM ⟨#[98]⟩ 1 5]) (hT : Tb w g m [] D) : Calls Tryd.prog 18 #[v, mv, .pointer (some ⟨g, 0, none⟩), .string ⟨#[]⟩] w (ToldP [mI ⟨#[97]⟩ 0 0, mI ⟨#[98]⟩ 1 5] 1 w) := by
  have P := pupd_any ⟨#[]⟩ v _ mv _ w ht h (by decide) hm (by
    intro f hf
    obtain rfl := List.mem_singleton.1 hf
    exact mM_ok _ _ _ (by decide) (by decide) (by decide)) hT
  rw [u1] at P
  exact P
set_option maxHeartbeats 8000000 in
set_option maxRecDepth 100000 in
theorem awake31 (w : World) (ht : Tabs w) : Calls Tryd.prog 14 #[] w (YesW w) := by
  have M1 := mts_lit w [mM ⟨#[97]⟩ 0 0, mM ⟨#[98]⟩ 0 0] #[.string ⟨#[97]⟩, .bool false, .int .u64 0, .int .u64 0, .int .u32 0, .bool false, .bool false, .bool false, .slice none 0 0, .slice none 0 0, .int .i64 0, .int .u64 0, .string ⟨#[]⟩, .slice none 0 0, .slice none 0 0, .string ⟨#[98]⟩, .bool false, .int .u64 0, .int .u64 0, .int .u32 0, .bool false, .bool false, .bool false, .slice none 0 0, .slice none 0 0, .int .i64 0, .int .u64 0, .string ⟨#[]⟩, .slice none 0 0, .slice none 0 0] rfl (by decide)
  have B0 := Lib.hid (ext_alloc w (.cells #[.string ⟨#[97]⟩, .bool false, .int .u64 0, .int .u64 0, .int .u32 0, .bool false, .bool false, .bool false, .slice none 0 0, .slice none 0 0, .int .i64 0, .int .u64 0, .string ⟨#[]⟩, .slice none 0 0, .slice none 0 0, .string ⟨#[98]⟩, .bool false, .int .u64 0, .int .u64 0, .int .u32 0, .bool false, .bool false, .bool false, .slice none 0 0, .slice none 0 0, .int .i64 0, .int .u64 0, .string ⟨#[]⟩, .slice none 0 0, .slice none 0 0] 32))
  have P1 := Lib.hid (born1 _ _ (ht.keep B0.out) M1)
  have HT := Lib.hid ht
  clear M1 ht
  go_enter Tryd.func14, Tryd.ntmps14
  go_wp2_with fail
  refine (P1.out).mono ?_
  rintro e w1 ⟨v1, rfl, h1, b1'⟩
  have B1 := Lib.hid (B0.out.trans (b1'.mono B0.out.size))
  have H1 := Lib.hid h1
  obtain ⟨a1, c1, rfl, -, -⟩ := h1
  clear P1 b1'
  go_wp2_with fail
  refine (new_any _).mono ?_
  rintro e w2 ⟨rfl, hT, b2, -⟩
  rw [show (w1.alloc (.cells #[.string ⟨#[98]⟩, .bool false, .int .u64 0, .int .u64 0, .int .u32 0, .bool false, .bool false, .bool false, .slice none 0 0, .slice none 0 0, .int .i64 1, .int .u64 5, .string ⟨#[]⟩, .slice none 0 0, .slice none 0 0] 32)).heap.size = w1.heap.size + 1 from by simp] at hT
  have M2 := mts_lit w1 [mM ⟨#[98]⟩ 1 5] #[.string ⟨#[98]⟩, .bool false, .int .u64 0, .int .u64 0, .int .u32 0, .bool false, .bool false, .bool false, .slice none 0 0, .slice none 0 0, .int .i64 1, .int .u64 5, .string ⟨#[]⟩, .slice none 0 0, .slice none 0 0] rfl (by decide)
  have B2 := Lib.hid ((ext_alloc w1 (.cells #[.string ⟨#[98]⟩, .bool false, .int .u64 0, .int .u64 0, .int .u32 0, .bool false, .bool false, .bool false, .slice none 0 0, .slice none 0 0, .int .i64 1, .int .u64 5, .string ⟨#[]⟩, .slice none 0 0, .slice none 0 0] 32)).trans (b2.mono (by simp)))
  have B12 := Lib.hid (B1.out.trans (B2.out.mono B1.out.size))
  have U1 := Lib.hid (upd1 _ _ w2 (HT.out.keep B12.out) (H1.out.keep B2.out (Nat.le_refl _)) (M2.keep b2 (Nat.le_refl _)) hT)
  clear M2 hT b2
  go_wp2_with fail
  refine (U1.out).mono ?_
  rintro e w3 ⟨v3, rfl, h3, b3⟩
  have B3 := Lib.hid (B12.out.trans (b3.mono B12.out.size))
  have H3 := Lib.hid h3
  have F1 := fndb v3 w3 h3
  replace F1 := Lib.hid F1
  obtain ⟨a3, c3, rfl, -, -⟩ := h3
  clear U1 b3
  go_wp2_with fail
  refine (F1.out).mono ?_
  rintro e w4 ⟨rfl, b4⟩
  have B4 := Lib.hid (B3.out.trans (b4.mono B3.out.size))
  clear F1 b4
  go_wp2_with fail
  go_ret
  exact ⟨rfl, B4.out.trans ((ext_alloc _ _).mono B4.out.size)⟩
end Go.Proofs.YtihblangceblhaaDoor

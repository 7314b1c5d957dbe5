/-
  FramerBack: FOR EVERY INPUT the law returns true and leaves its arguments as they were; the package's tables are laid (a card).
-/
import Derived.Test.YtceiipcdkonnlaaDoorTq
import Derived.Test.YtceiipcdkonnlaaDoorCards
import Derived.Test.YtceiipcdkonnlaaDoorTie
import Derived.WalkKit
import Derived.ProofKit
import Derived.OpenShut
import Derived.ChangeOld
import Derived.Below
import Derived.SizedLaws
import Derived.Lib.SmallJoins
import Derived.Deep.DeepHandedRow
import Derived.Lib.LaidTab
namespace Go.Proofs.YtceiipcdkonnlaaDoor.framerBack
set_option linter.unusedSimpArgs false
open Go.ChangeShapes Go.WideShapes Go.ChangeAt Go.RowKit
open Go.ChangeMaps (open_string shut_string)
set_option linter.unusedVariables false

theorem own : ownKnob Tryd.prog.godebug = none := by kernel_rfl
theorem laidOut : laidOutB Tryd.prog = true := by kernel_rfl

/-- What a round has. -/
def BRd (w wr : World) (a0 : Addr) (f i : Nat) (vm : Value) : Prop :=
  ∃ (v : Value) (P : List Pkt), Fm wr (f + 1) f v (encs P) 0 .nilIface ∧ (∀ p ∈ P, p.ok) ∧ wr.ownsRow w.heap.size 35 4 vm P.length (rwsAtC (P.map Pkt.rw)) ∧ Below w.heap.size w wr ∧ Gl a0 wr ∧ P.length ≤ i ∧ w.heap.size ≤ f
set_option maxHeartbeats 32000000 in
set_option maxRecDepth 100000 in
theorem walk (a : Option Addr) (len cap : Nat) (A : List Rw) (cI : Int) (w : World) (ht : Tabs w) (hA : RwsAt w (.slice a len cap) A) (hok : ∀ f ∈ A, f.ok) (hc : 0 ≤ cI ∧ cI ≤ 255) :
    Calls Tryd.prog 5 #[.slice a len cap, .int .u8 cI] w (Yes w) := by
  obtain ⟨a0, G⟩ := ht
  obtain ⟨a', cap', hv, hl, hcell⟩ := hA
  simp only [Value.slice.injEq] at hv
  obtain ⟨rfl, rfl, rfl⟩ := hv
  have hl' : (A.length : Int) ≤ 9223372036854775807 := by omega
  have HC := Lib.hid hcell
  have AW := Lib.hid (fun W (hW : Gl a0 W) => awake12_any W hW)
  replace G := Lib.hid G
  have N1 := Lib.hid (f_new w)
  clear hcell hok hl
  go_enter Tryd.func5, Tryd.ntmps5
  go_wp2_with fail
  refine N1.out.mono ?_
  rintro e w1 ⟨rfl, m1, b1, z1⟩
  have C1 : Hid (BRd w w1 a0 w.heap.size 0 (.slice none 0 0)) := Lib.hid ⟨_, [], m1, by simp, World.ownsRow_nil _ _ _ _, b1, G.out.ext b1, Nat.le_refl _, Nat.le_refl _⟩
  have f3 := Lib.hid ((G.out.ext b1).ge m1)
  clear m1 b1 z1 N1
  go_wp2_with fail
  go_loopw [6, 7] (fun mv iv wr => ∃ i : Nat, iv = .int .i64 (i : Int) ∧ i ≤ A.length ∧ i ≤ 20 ∧ BRd w wr a0 w.heap.size i mv) (fun _ iv _ => A.length - (intOf iv).toNat)
  case atStart => exact ⟨0, rfl, by omega, by omega, C1.out⟩
  case round =>
    obtain ⟨i, rfl, hi, hi2, HB⟩ := hrel
    obtain ⟨v, P, hf, hP, hr, hb, hg, hPl, hlo⟩ := HB
    clear C1
    obtain ⟨ma, mc, rfl⟩ := own_slice hr
    by_cases hlt : i < A.length ∧ i < 20
    · obtain ⟨hlt0, hlt1⟩ := hlt
      obtain ⟨y, hy⟩ : ∃ y, A[i]? = some y := ⟨_, List.getElem?_eq_getElem hlt0⟩
      obtain ⟨bb, oo, rfl, hbl, c0, c1, c2, c3⟩ := rwsAt_at hy hb HC.out
      obtain ⟨yk, yf, yn, yb⟩ := y
      simp only at c0 c1 c2 c3
      have hbr : bb < wr.heap.size := Nat.lt_of_lt_of_le hbl hb.size
      have hlt0' : (i : Int) < (A.length : Int) := by omega
      have hlt1' : (i : Int) < 20 := by omega
      have HF := Lib.hid hf
      have HP := Lib.hid hP
      have HR := Lib.hid hr
      have HB := Lib.hid hb
      have HG := Lib.hid hg
      have HPL := Lib.hid (show P.length ≤ i ∧ P.length ≤ 20 from ⟨hPl, by omega⟩)
      clear hf hP hr hb hg hPl hlo hy
      by_cases h3 : yb.size ≤ 300
      · have h3' : ¬ (300 : Int) < (yb.size : Int) := by omega
        rcases put_cases yk yf yb.size h3 (wr.alloc (.cells #[.int .i64 yk, .int .i64 yf, .int .i64 (yb.size : Int)] 33)) with ⟨K, F, rfl, rfl, hKF, hput⟩ | ⟨E, hE, hput⟩
        · have hpk : Pkt.ok ⟨K, F, yb⟩ := ⟨hKF, by show (yb).size ≤ 300; omega⟩
          replace hpk := Lib.hid hpk
          have KP := Lib.hid hput
          replace hKF := Lib.hid hKF
          clear hput
          unfold PPost at KP
          go_wp2_with fail
          refine KP.out.mono ?_
          rintro e w2 ⟨vp, rfl, op, b2⟩
          obtain ⟨pa, pc, rfl⟩ := own_slice op
          have cv : (convert 23 9 (.slice pa (putB K F yb.size).length pc)).run Tryd.prog w2 = .ok (.string (strB (putB K F yb.size))) w2 := (BytesAt.of_own op).conv Tryd.underlying23 Tryd.underlying5 Tryd.underlying9
          have rh := at_new b2
          have b2w := (ext_alloc wr (.cells #[.int .i64 (K : Int), .int .i64 (F : Int), .int .i64 (yb.size : Int)] 33)).trans (b2.mono (by simp))
          have H2 := Lib.hid (HF.out.ext b2w)
          have R2 := Lib.hid (own_keep HR.out b2w)
          have G2 := Lib.hid (HG.out.ext b2w)
          have B2 := Lib.hid (HB.out.trans (b2w.mono HB.out.size))
          have hsb : (strB (putB K F yb.size)).size ≤ 3 := by rw [strB_size, putB_length]; split <;> omega
          have hel := Lib.hid (encs_len P HP.out)
          have K3 := Lib.hid (fun x hx => f_feed H2.out (by have := H2.out.lt; omega) x hx)
          have hX := Lib.hid (show ¬ FS w.heap.size v wr.heap.size from fun hk => by have := HF.out.hi hk; omega)
          have rhl := Lib.hid (Array.getElem?_eq_some_iff.1 rh).1
          replace rh := Lib.hid rh
          clear op b2 b2w KP
          go_wp2_with fail
          refine (K3.out _ (by rw [← nb_length (strB (putB K F yb.size) ++ yb), nb_append, List.length_append, nb_length, nb_length]; have := hel.out; have := HPL.out; omega)).mono ?_
          rintro e w3 ⟨v3, rfl, h3f, F3, o3⟩
          have enb : encs P ++ nb (strB (putB K F yb.size) ++ yb) = encs (P ++ [⟨K, F, yb⟩]) := by
            have hlt := putB_lt K F yb.size (by have := right_zero hKF.out; omega) (by have := right_zero hKF.out; omega) (by omega)
            rw [nb_append, nb_strB _ hlt, encs_snoc]
            show _ = _ ++ (putB K F (yb).size ++ _)
            rw [show (yb).size = yb.size from rfl]
          rw [enb] at h3f
          have r3 := (F3.block wr.heap.size rhl.out hX.out).trans rh.out
          have l3 : wr.heap.size < w3.heap.size := (Array.getElem?_eq_some_iff.1 r3).1
          have d0 : w3.cell? ⟨wr.heap.size, 0, none⟩ = _ := cell_of_row _ _ 0 _ 33 (0, 0) r3
          have d1 : w3.cell? ⟨wr.heap.size, 1, none⟩ = _ := cell_of_row _ _ 1 _ 33 (0, 0) r3
          have d2 : w3.cell? ⟨wr.heap.size, 2, none⟩ = _ := cell_of_row _ _ 2 _ 33 (0, 0) r3
          have R3 := Lib.hid (own_fars R2.out F3 (fun k hk => H2.out.apart R2.out hk))
          have B3 := Lib.hid (B2.out.trans (F3.below B2.out.size (fun k hk => H2.out.lo hk)))
          have G3 := Lib.hid (G2.out.far F3 (fun k hk => Nat.le_trans f3.out (H2.out.lo hk)))
          have E3 := ext_alloc w3 (.cells #[.int .i64 (K : Int), .int .i64 (F : Int), .int .i64 (yb.size : Int), .string (yb)] 35)
          have H4 := Lib.hid (h3f.ext E3)
          have R4 := Lib.hid (own_keep R3.out E3)
          have B4 := Lib.hid (B3.out.trans (E3.mono B3.out.size))
          have G4 := Lib.hid (G3.out.ext E3)
          have C4 : Hid (∀ j u, (Pkt.rw ⟨K, F, yb⟩).cells[j]? = some u → (w3.alloc (.cells #[.int .i64 (K : Int), .int .i64 (F : Int), .int .i64 (yb.size : Int), .string (yb)] 35)).cell? ((⟨w3.heap.size, 0, none⟩ : Addr).add j) = some u) := Lib.hid (by
            intro j u hj
            have hr := heap_alloc_new w3 (.cells #[.int .i64 (K : Int), .int .i64 (F : Int), .int .i64 (yb.size : Int), .string (yb)] 35)
            rw [add_off', Nat.zero_add, cell_of_row _ _ j _ 35 (0, 0) hr]
            simpa [Pkt.rw, Rw.cells] using hj)
          have hz4 := Lib.hid B4.out.size
          have hPx := HPL.out.2
          replace r3 := Lib.hid r3
          clear h3f F3 o3 E3 enb cv K3 H2 R2 G2 B2 R3 B3 G3
          obtain ⟨i0, hi0, hz0, hz1, hz2⟩ := info_parts info35
          go_wp2_with (at_builtin; refine wpList_append_own _ rfl (.tmp 56) (.tmp 60) 43 rfl w.heap.size 35 i0 (.agg #[.int .i64 0, .int .i64 0, .int .i64 0, .string ⟨#[]⟩]) 4 40 Tryd.underlying43 hi0 hz0 hz1 hz2 rfl (by decide) (.slice ma P.length mc) P.length (rwsAtC (P.map Pkt.rw)) rfl R4.out ⟨w3.heap.size, 0, none⟩ 1 1 (Pkt.rw ⟨K, F, yb⟩).cells rfl rfl C4.out (by intro u hu; simp [Rw.cells] at hu; rcases hu with rfl | rfl | rfl | rfl <;> rfl) (by unfold maxLen; omega) (by omega) (by have := hz4.out; exact this) ?_; intro v7 w7 o7 g7 n7; obtain ⟨va7, vc7, rfl⟩ := own_slice o7; have O7 := Lib.hid o7; have G7 := Lib.hid g7; clear o7 g7 n7)
          have F7 := Lib.hid (Far.of_grown (S := fun k => (Value.slice ma P.length mc).ownBlock = some k) G7.out (fun k _ hk => hk))
          have X7 := Lib.hid (H4.out.fars F7.out (fun k hk e => H4.out.apart R4.out e hk))
          have B7 := Lib.hid (B4.out.trans (F7.out.below B4.out.size (fun k hk => (R4.out.lt k hk).1)))
          have GG7 := Lib.hid (G4.out.far F7.out (fun k hk => by have := (R4.out.lt k hk).1; have := f3.out; omega))
          have O8 : Hid (w7.ownsRow w.heap.size 35 4 (.slice va7 (P.length + 1) vc7) (P ++ [(⟨K, F, yb⟩ : Pkt)]).length (rwsAtC ((P ++ [(⟨K, F, yb⟩ : Pkt)]).map Pkt.rw))) := Lib.hid (by rw [List.length_append, List.map_append, rwsAtC_append]; exact (show rwsAtC ([(⟨K, F, yb⟩ : Pkt)].map Pkt.rw) = (Pkt.rw ⟨K, F, yb⟩).cells by simp [rwsAtC]) ▸ O7.out)
          have L8 : Hid ((P ++ [(⟨K, F, yb⟩ : Pkt)]).length ≤ i + 1) := Lib.hid (by rw [List.length_append]; have := HPL.out; show P.length + 1 ≤ i + 1; omega)
          have P8 : Hid (∀ p ∈ P ++ [(⟨K, F, yb⟩ : Pkt)], p.ok) := Lib.hid (by
            intro p hp
            rcases List.mem_append.1 hp with hp | hp
            · exact HP.out p hp
            · rw [List.mem_singleton.1 hp]; exact hpk.out)
          clear O7 G7 F7 R4 C4 H4 B4 G4 hz4 hi0 hz0 hz1 hz2 hPx
          go_roundw
          case rel => exact ⟨i + 1, by simp, by omega, by omega, v3, P ++ [(⟨K, F, yb⟩ : Pkt)], X7.out, P8.out, O8.out, B7.out, GG7.out, L8.out, Nat.le_refl _⟩
          case measure => simp [intOf]; omega
        · have he : (E == 0) = false := by simpa using hE
          have KP := Lib.hid hput
          clear hput hE
          go_wp2_with fail
          refine KP.out.mono ?_
          rintro e w2 ⟨rfl, b2⟩
          have b2w := (ext_alloc wr (.cells #[.int .i64 yk, .int .i64 yf, .int .i64 (yb.size : Int)] 33)).trans (b2.mono (by simp))
          have H2 := Lib.hid (HF.out.ext b2w)
          have R2 := Lib.hid (own_keep HR.out b2w)
          have G2 := Lib.hid (HG.out.ext b2w)
          have B2 := Lib.hid (HB.out.trans (b2w.mono HB.out.size))
          clear b2 b2w KP
          go_wp2_with fail
          go_roundw
          case rel => exact ⟨i + 1, by simp, by omega, by omega, v, P, H2.out, HP.out, R2.out, B2.out, G2.out, by have := HPL.out; omega, Nat.le_refl _⟩
          case measure => simp [intOf]; omega
      · have h3' : (300 : Int) < (yb.size : Int) := by omega
        have hex : (yb.extract 0 300).size = 300 := by rw [ByteArray.size_extract]; omega
        rcases put_cases yk yf 300 (by omega) (wr.alloc (.cells #[.int .i64 yk, .int .i64 yf, .int .i64 300] 33)) with ⟨K, F, rfl, rfl, hKF, hput⟩ | ⟨E, hE, hput⟩
        · have hpk : Pkt.ok ⟨K, F, yb.extract 0 300⟩ := ⟨hKF, by show (yb.extract 0 300).size ≤ 300; omega⟩
          replace hpk := Lib.hid hpk
          have KP := Lib.hid hput
          replace hKF := Lib.hid hKF
          clear hput
          unfold PPost at KP
          go_wp2_with fail
          refine KP.out.mono ?_
          rintro e w2 ⟨vp, rfl, op, b2⟩
          obtain ⟨pa, pc, rfl⟩ := own_slice op
          have cv : (convert 23 9 (.slice pa (putB K F 300).length pc)).run Tryd.prog w2 = .ok (.string (strB (putB K F 300))) w2 := (BytesAt.of_own op).conv Tryd.underlying23 Tryd.underlying5 Tryd.underlying9
          have rh := at_new b2
          have b2w := (ext_alloc wr (.cells #[.int .i64 (K : Int), .int .i64 (F : Int), .int .i64 300] 33)).trans (b2.mono (by simp))
          have H2 := Lib.hid (HF.out.ext b2w)
          have R2 := Lib.hid (own_keep HR.out b2w)
          have G2 := Lib.hid (HG.out.ext b2w)
          have B2 := Lib.hid (HB.out.trans (b2w.mono HB.out.size))
          have hsb : (strB (putB K F 300)).size ≤ 3 := by rw [strB_size, putB_length]; split <;> omega
          have hel := Lib.hid (encs_len P HP.out)
          have K3 := Lib.hid (fun x hx => f_feed H2.out (by have := H2.out.lt; omega) x hx)
          have hX := Lib.hid (show ¬ FS w.heap.size v wr.heap.size from fun hk => by have := HF.out.hi hk; omega)
          have rhl := Lib.hid (Array.getElem?_eq_some_iff.1 rh).1
          replace rh := Lib.hid rh
          clear op b2 b2w KP
          go_wp2_with fail
          refine (K3.out _ (by rw [← nb_length (strB (putB K F 300) ++ yb.extract 0 300), nb_append, List.length_append, nb_length, nb_length]; have := hel.out; have := HPL.out; omega)).mono ?_
          rintro e w3 ⟨v3, rfl, h3f, F3, o3⟩
          have enb : encs P ++ nb (strB (putB K F 300) ++ yb.extract 0 300) = encs (P ++ [⟨K, F, yb.extract 0 300⟩]) := by
            have hlt := putB_lt K F 300 (by have := right_zero hKF.out; omega) (by have := right_zero hKF.out; omega) (by omega)
            rw [nb_append, nb_strB _ hlt, encs_snoc]
            show _ = _ ++ (putB K F (yb.extract 0 300).size ++ _)
            rw [show (yb.extract 0 300).size = 300 from hex]
          rw [enb] at h3f
          have r3 := (F3.block wr.heap.size rhl.out hX.out).trans rh.out
          have l3 : wr.heap.size < w3.heap.size := (Array.getElem?_eq_some_iff.1 r3).1
          have d0 : w3.cell? ⟨wr.heap.size, 0, none⟩ = _ := cell_of_row _ _ 0 _ 33 (0, 0) r3
          have d1 : w3.cell? ⟨wr.heap.size, 1, none⟩ = _ := cell_of_row _ _ 1 _ 33 (0, 0) r3
          have d2 : w3.cell? ⟨wr.heap.size, 2, none⟩ = _ := cell_of_row _ _ 2 _ 33 (0, 0) r3
          have R3 := Lib.hid (own_fars R2.out F3 (fun k hk => H2.out.apart R2.out hk))
          have B3 := Lib.hid (B2.out.trans (F3.below B2.out.size (fun k hk => H2.out.lo hk)))
          have G3 := Lib.hid (G2.out.far F3 (fun k hk => Nat.le_trans f3.out (H2.out.lo hk)))
          have E3 := ext_alloc w3 (.cells #[.int .i64 (K : Int), .int .i64 (F : Int), .int .i64 300, .string (yb.extract 0 300)] 35)
          have H4 := Lib.hid (h3f.ext E3)
          have R4 := Lib.hid (own_keep R3.out E3)
          have B4 := Lib.hid (B3.out.trans (E3.mono B3.out.size))
          have G4 := Lib.hid (G3.out.ext E3)
          have C4 : Hid (∀ j u, (Pkt.rw ⟨K, F, yb.extract 0 300⟩).cells[j]? = some u → (w3.alloc (.cells #[.int .i64 (K : Int), .int .i64 (F : Int), .int .i64 300, .string (yb.extract 0 300)] 35)).cell? ((⟨w3.heap.size, 0, none⟩ : Addr).add j) = some u) := Lib.hid (by
            intro j u hj
            have hr := heap_alloc_new w3 (.cells #[.int .i64 (K : Int), .int .i64 (F : Int), .int .i64 300, .string (yb.extract 0 300)] 35)
            rw [add_off', Nat.zero_add, cell_of_row _ _ j _ 35 (0, 0) hr]
            simpa [Pkt.rw, Rw.cells, hex] using hj)
          have hz4 := Lib.hid B4.out.size
          have hPx := HPL.out.2
          replace r3 := Lib.hid r3
          clear h3f F3 o3 E3 enb cv K3 H2 R2 G2 B2 R3 B3 G3
          obtain ⟨i0, hi0, hz0, hz1, hz2⟩ := info_parts info35
          go_wp2_with (at_builtin; refine wpList_append_own _ rfl (.tmp 56) (.tmp 60) 43 rfl w.heap.size 35 i0 (.agg #[.int .i64 0, .int .i64 0, .int .i64 0, .string ⟨#[]⟩]) 4 40 Tryd.underlying43 hi0 hz0 hz1 hz2 rfl (by decide) (.slice ma P.length mc) P.length (rwsAtC (P.map Pkt.rw)) rfl R4.out ⟨w3.heap.size, 0, none⟩ 1 1 (Pkt.rw ⟨K, F, yb.extract 0 300⟩).cells rfl rfl C4.out (by intro u hu; simp [Rw.cells] at hu; rcases hu with rfl | rfl | rfl | rfl <;> rfl) (by unfold maxLen; omega) (by omega) (by have := hz4.out; exact this) ?_; intro v7 w7 o7 g7 n7; obtain ⟨va7, vc7, rfl⟩ := own_slice o7; have O7 := Lib.hid o7; have G7 := Lib.hid g7; clear o7 g7 n7)
          have F7 := Lib.hid (Far.of_grown (S := fun k => (Value.slice ma P.length mc).ownBlock = some k) G7.out (fun k _ hk => hk))
          have X7 := Lib.hid (H4.out.fars F7.out (fun k hk e => H4.out.apart R4.out e hk))
          have B7 := Lib.hid (B4.out.trans (F7.out.below B4.out.size (fun k hk => (R4.out.lt k hk).1)))
          have GG7 := Lib.hid (G4.out.far F7.out (fun k hk => by have := (R4.out.lt k hk).1; have := f3.out; omega))
          have O8 : Hid (w7.ownsRow w.heap.size 35 4 (.slice va7 (P.length + 1) vc7) (P ++ [(⟨K, F, yb.extract 0 300⟩ : Pkt)]).length (rwsAtC ((P ++ [(⟨K, F, yb.extract 0 300⟩ : Pkt)]).map Pkt.rw))) := Lib.hid (by rw [List.length_append, List.map_append, rwsAtC_append]; exact (show rwsAtC ([(⟨K, F, yb.extract 0 300⟩ : Pkt)].map Pkt.rw) = (Pkt.rw ⟨K, F, yb.extract 0 300⟩).cells by simp [rwsAtC]) ▸ O7.out)
          have L8 : Hid ((P ++ [(⟨K, F, yb.extract 0 300⟩ : Pkt)]).length ≤ i + 1) := Lib.hid (by rw [List.length_append]; have := HPL.out; show P.length + 1 ≤ i + 1; omega)
          have P8 : Hid (∀ p ∈ P ++ [(⟨K, F, yb.extract 0 300⟩ : Pkt)], p.ok) := Lib.hid (by
            intro p hp
            rcases List.mem_append.1 hp with hp | hp
            · exact HP.out p hp
            · rw [List.mem_singleton.1 hp]; exact hpk.out)
          clear O7 G7 F7 R4 C4 H4 B4 G4 hz4 hi0 hz0 hz1 hz2 hPx
          go_roundw
          case rel => exact ⟨i + 1, by simp, by omega, by omega, v3, P ++ [(⟨K, F, yb.extract 0 300⟩ : Pkt)], X7.out, P8.out, O8.out, B7.out, GG7.out, L8.out, Nat.le_refl _⟩
          case measure => simp [intOf]; omega
        · have he : (E == 0) = false := by simpa using hE
          have KP := Lib.hid hput
          clear hput hE
          go_wp2_with fail
          refine KP.out.mono ?_
          rintro e w2 ⟨rfl, b2⟩
          have b2w := (ext_alloc wr (.cells #[.int .i64 yk, .int .i64 yf, .int .i64 300] 33)).trans (b2.mono (by simp))
          have H2 := Lib.hid (HF.out.ext b2w)
          have R2 := Lib.hid (own_keep HR.out b2w)
          have G2 := Lib.hid (HG.out.ext b2w)
          have B2 := Lib.hid (HB.out.trans (b2w.mono HB.out.size))
          clear b2 b2w KP
          go_wp2_with fail
          go_roundw
          case rel => exact ⟨i + 1, by simp, by omega, by omega, v, P, H2.out, HP.out, R2.out, B2.out, G2.out, by have := HPL.out; omega, Nat.le_refl _⟩
          case measure => simp [intOf]; omega
    · by_cases h1 : i < A.length
      · have h1' : (i : Int) < (A.length : Int) := by omega
        have h2' : ¬ (i : Int) < 20 := by omega
        have hq0 : (0 : Int) ≤ cI % 14 ∧ cI % 14 ≤ 13 := by omega
        obtain ⟨q0, q1⟩ := hq0
        obtain ⟨cn, hcn⟩ : ∃ cn : Nat, (cn : Int) = 16 * (1 + cI % 14) := ⟨(16 * (1 + cI % 14)).toNat, by omega⟩
        have hcl : cn < 256 := by omega
        have cv : (convert 23 9 (.slice (some ⟨wr.heap.size, 0, none⟩) 1 1)).run Tryd.prog (wr.alloc (.cells #[.int .u8 (16 * (1 + cI % 14))] 5)) = .ok (.string (strB [cn])) (wr.alloc (.cells #[.int .u8 (16 * (1 + cI % 14))] 5)) :=
          BytesAt.conv (l := [cn]) (BytesAt.of_own (B := wr.heap.size) (by
            have := World.ownsRow_lit (base := wr.heap.size) (e := 5) (size := 1) wr #[.int .u8 (16 * (1 + cI % 14))] 1 (by simp) (by unfold maxLen; omega) rfl
            simpa [bl, hcn] using this)) Tryd.underlying23 Tryd.underlying5 Tryd.underlying9
        have E1 := ext_alloc wr (.cells #[.int .u8 (16 * (1 + cI % 14))] 5)
        have H1 := Lib.hid (hf.ext E1)
        have R1 := Lib.hid (own_keep hr E1)
        have G1 := Lib.hid (hg.ext E1)
        have B1 := Lib.hid (hb.trans (E1.mono hb.size))
        have hel := Lib.hid (encs_len P hP)
        have K1 := Lib.hid (f_feed H1.out (by have := H1.out.lt; omega) (strB [cn]) (by rw [strB_size]; have := hel.out; simp; omega))
        have enb : encs P ++ nb (strB [cn]) = encs P ++ [cn] := by rw [nb_strB [cn] (by intro x hx; simp at hx; omega)]
        have HS := Lib.hid (allS_enc P [cn] 0 hP)
        have HPL := Lib.hid (show P.length ≤ i ∧ P.length ≤ 20 from ⟨hPl, by omega⟩)
        replace hcn := Lib.hid hcn
        clear hf hP hr hb hg hPl hlo E1
        go_wp2_with fail
        refine K1.out.mono ?_
        rintro e w3 ⟨v3, rfl, h3f, F3, o3⟩
        rw [enb] at h3f
        have R3 := Lib.hid (own_fars R1.out F3 (fun k hk => H1.out.apart R1.out hk))
        have B3 := Lib.hid (B1.out.trans (F3.below B1.out.size (fun k hk => H1.out.lo hk)))
        have G3 := Lib.hid (G1.out.far F3 (fun k hk => Nat.le_trans f3.out (H1.out.lo hk)))
        have H3 := Lib.hid h3f
        have K3 := Lib.hid (all_any (s := ⟨encs P ++ [cn], 0, 0⟩) (m := P.length) h3f G3.out (by have := hel.out; have := HPL.out; simp; omega) (by simp) (by have := HPL.out; simp; omega) (fun h => absurd rfl h) (by have := HPL.out; omega))
        unfold AllP at K3
        rw [HS.out] at K3
        simp only at K3
        clear h3f F3 o3 enb K1 cv
        go_wp2_with fail
        refine K3.out.mono ?_
        rintro e w4 ⟨v4, vk, rfl, h4, r4, F4, o4⟩
        have R4 := Lib.hid (own_fars R3.out F4 (fun k hk => H3.out.apart R3.out hk))
        have B4 := Lib.hid (B3.out.trans (F4.below B3.out.size (fun k hk => H3.out.lo hk)))
        have G4 := Lib.hid (G3.out.far F4 (fun k hk => Nat.le_trans f3.out (H3.out.lo hk)))
        have r4' := r4
        rw [List.length_map] at r4'
        obtain ⟨ka, kc, rfl⟩ := own_slice r4'
        have SM := Lib.hid (same_any (P := P.map Pkt.rw) (RwsAt.of_own r4 (by rw [List.length_map]; have := HPL.out; omega)) (RwsAt.of_own (B := w.heap.size) (v := .slice ma P.length mc) (by rw [List.length_map]; exact R4.out) (by rw [List.length_map]; have := HPL.out; omega)))
        have H4 := Lib.hid h4
        clear h4 r4 r4' F4 o4 K3
        go_wp2_with fail
        refine SM.out.mono ?_
        rintro e w5 ⟨rfl, b5⟩
        have H5 : Hid (Fm w5 (w.heap.size + 1) w.heap.size v4 [cn] (0 + (P.length : Int)) .nilIface) := Lib.hid (H4.out.ext b5)
        have W1 := Lib.hid (f_waits H5.out)
        have W2 := Lib.hid (f_live H5.out)
        have GA := Lib.hid (AW.out _ (G4.out.ext b5))
        have B5 := Lib.hid (B4.out.trans (b5.mono B4.out.size))
        clear b5 SM
        go_wp2_with fail
        refine W1.out.mono ?_
        rintro e w6 ⟨rfl, rfl⟩
        go_wp2_with fail
        refine W2.out.mono ?_
        rintro e w6 ⟨rfl, rfl⟩
        go_wp2_with fail
        refine GA.out.mono ?_
        rintro e w6 ⟨rfl, b6⟩
        go_wp2_with fail
        go_ret
        exact ⟨rfl, B5.out.trans (b6.mono B5.out.size)⟩
      · have h1' : ¬ (i : Int) < (A.length : Int) := by omega
        have hq0 : (0 : Int) ≤ cI % 14 ∧ cI % 14 ≤ 13 := by omega
        obtain ⟨q0, q1⟩ := hq0
        obtain ⟨cn, hcn⟩ : ∃ cn : Nat, (cn : Int) = 16 * (1 + cI % 14) := ⟨(16 * (1 + cI % 14)).toNat, by omega⟩
        have hcl : cn < 256 := by omega
        have cv : (convert 23 9 (.slice (some ⟨wr.heap.size, 0, none⟩) 1 1)).run Tryd.prog (wr.alloc (.cells #[.int .u8 (16 * (1 + cI % 14))] 5)) = .ok (.string (strB [cn])) (wr.alloc (.cells #[.int .u8 (16 * (1 + cI % 14))] 5)) :=
          BytesAt.conv (l := [cn]) (BytesAt.of_own (B := wr.heap.size) (by
            have := World.ownsRow_lit (base := wr.heap.size) (e := 5) (size := 1) wr #[.int .u8 (16 * (1 + cI % 14))] 1 (by simp) (by unfold maxLen; omega) rfl
            simpa [bl, hcn] using this)) Tryd.underlying23 Tryd.underlying5 Tryd.underlying9
        have E1 := ext_alloc wr (.cells #[.int .u8 (16 * (1 + cI % 14))] 5)
        have H1 := Lib.hid (hf.ext E1)
        have R1 := Lib.hid (own_keep hr E1)
        have G1 := Lib.hid (hg.ext E1)
        have B1 := Lib.hid (hb.trans (E1.mono hb.size))
        have hel := Lib.hid (encs_len P hP)
        have K1 := Lib.hid (f_feed H1.out (by have := H1.out.lt; omega) (strB [cn]) (by rw [strB_size]; have := hel.out; simp; omega))
        have enb : encs P ++ nb (strB [cn]) = encs P ++ [cn] := by rw [nb_strB [cn] (by intro x hx; simp at hx; omega)]
        have HS := Lib.hid (allS_enc P [cn] 0 hP)
        have HPL := Lib.hid (show P.length ≤ i ∧ P.length ≤ 20 from ⟨hPl, by omega⟩)
        replace hcn := Lib.hid hcn
        clear hf hP hr hb hg hPl hlo E1
        go_wp2_with fail
        refine K1.out.mono ?_
        rintro e w3 ⟨v3, rfl, h3f, F3, o3⟩
        rw [enb] at h3f
        have R3 := Lib.hid (own_fars R1.out F3 (fun k hk => H1.out.apart R1.out hk))
        have B3 := Lib.hid (B1.out.trans (F3.below B1.out.size (fun k hk => H1.out.lo hk)))
        have G3 := Lib.hid (G1.out.far F3 (fun k hk => Nat.le_trans f3.out (H1.out.lo hk)))
        have H3 := Lib.hid h3f
        have K3 := Lib.hid (all_any (s := ⟨encs P ++ [cn], 0, 0⟩) (m := P.length) h3f G3.out (by have := hel.out; have := HPL.out; simp; omega) (by simp) (by have := HPL.out; simp; omega) (fun h => absurd rfl h) (by have := HPL.out; omega))
        unfold AllP at K3
        rw [HS.out] at K3
        simp only at K3
        clear h3f F3 o3 enb K1 cv
        go_wp2_with fail
        refine K3.out.mono ?_
        rintro e w4 ⟨v4, vk, rfl, h4, r4, F4, o4⟩
        have R4 := Lib.hid (own_fars R3.out F4 (fun k hk => H3.out.apart R3.out hk))
        have B4 := Lib.hid (B3.out.trans (F4.below B3.out.size (fun k hk => H3.out.lo hk)))
        have G4 := Lib.hid (G3.out.far F4 (fun k hk => Nat.le_trans f3.out (H3.out.lo hk)))
        have r4' := r4
        rw [List.length_map] at r4'
        obtain ⟨ka, kc, rfl⟩ := own_slice r4'
        have SM := Lib.hid (same_any (P := P.map Pkt.rw) (RwsAt.of_own r4 (by rw [List.length_map]; have := HPL.out; omega)) (RwsAt.of_own (B := w.heap.size) (v := .slice ma P.length mc) (by rw [List.length_map]; exact R4.out) (by rw [List.length_map]; have := HPL.out; omega)))
        have H4 := Lib.hid h4
        clear h4 r4 r4' F4 o4 K3
        go_wp2_with fail
        refine SM.out.mono ?_
        rintro e w5 ⟨rfl, b5⟩
        have H5 : Hid (Fm w5 (w.heap.size + 1) w.heap.size v4 [cn] (0 + (P.length : Int)) .nilIface) := Lib.hid (H4.out.ext b5)
        have W1 := Lib.hid (f_waits H5.out)
        have W2 := Lib.hid (f_live H5.out)
        have GA := Lib.hid (AW.out _ (G4.out.ext b5))
        have B5 := Lib.hid (B4.out.trans (b5.mono B4.out.size))
        clear b5 SM
        go_wp2_with fail
        refine W1.out.mono ?_
        rintro e w6 ⟨rfl, rfl⟩
        go_wp2_with fail
        refine W2.out.mono ?_
        rintro e w6 ⟨rfl, rfl⟩
        go_wp2_with fail
        refine GA.out.mono ?_
        rintro e w6 ⟨rfl, b6⟩
        go_wp2_with fail
        go_ret
        exact ⟨rfl, B5.out.trans (b6.mono B5.out.size)⟩

set_option maxRecDepth 100000 in
theorem contract (F : Stop.Interp) (H : Type) (enc : TypeId × Value → H) (W : World) (base : Nat) (args : Array Value) (ds gs : List (DataW H)) (before : List MemPlace)
    (hval : ∀ (j : Nat) t v, Tryd.f5.params[j]? = some t → args[j]? = some v → Value.okWide Tryd.prog W .any base t v)
    (hW : DataW.Whole enc Tryd.prog Tryd.f5.params.toList Rows.framerBackSpec.vars false W args.toList ds gs before)
    
    (hsz : (DataW.weightsEach Tryd.prog (Tryd.f5.params.toList ++ (OpenSpec.ofChange Rows.framerBackSpec).bare.plain.varTypes Tryd.prog) (ds ++ gs)).all (· ≤ reachBytes) = true) (hL : laidMetH Tryd.prog Rows.framerBackRow.laid W) :
    Calls Tryd.prog 5 args W fun e W' => ∃ v, e = .returned v ∧ ((OpenSpec.ofChange Rows.framerBackSpec).at F).post enc Tryd.prog Tryd.f5 false true false false W args v W' := by
  have hW' := hW
  obtain ⟨p, q, hA0, hV, rfl, hfz, hnd⟩ := hW
  have hA : DataW.TrodAll enc Tryd.prog W 0 (fun _ => true) true Tryd.f5.params.toList args.toList ds p := hA0
  rw [Tryd.params5] at hA hval hsz
  obtain ⟨v0, vs0, d0, ds0, p0, q0, hargs, rfl, rfl, h0, r0⟩ := trodAll_cons hA
  obtain ⟨v1, vs1, d1, ds1, p1, q1, rfl, rfl, rfl, h1, r1⟩ := trodAll_cons r0
  obtain ⟨rfl, rfl, rfl⟩ := trodAll_nil r1
  obtain rfl : args = #[v0, v1] := by cases args; simp_all
  obtain ⟨rfl, rfl⟩ := trodVars_none hV
  have k0 := h0
  have lt0 : ∀ x ∈ p0, x.block < W.heap.size := by obtain ⟨m, hm⟩ := k0; exact DataW.trod_lt m _ _ _ hm
  have k1 := h1
  have lt1 : ∀ x ∈ p1, x.block < W.heap.size := by obtain ⟨m, hm⟩ := k1; exact DataW.trod_lt m _ _ _ hm
  obtain ⟨a0, len0, cap0, rfl⟩ := okWide_slice Tryd.underlying43 (hval 0 43 v0 rfl rfl)
  obtain ⟨z0, w0, s0⟩ : ∃ l : List Rw, RwsAt W (.slice a0 len0 cap0) l ∧ ∀ f ∈ l, f.ok := by
    obtain ⟨fuel, hf⟩ := h0
    exact open_rws hf (fun n hn => by
      have hm := List.all_eq_true.1 hsz n (DataW.weights_mem_each (j := 0) (t := 43) rfl rfl _ hn)
      simpa [reachBytes] using of_decide_eq_true hm)
  obtain ⟨a1, rfl, rfl, rfl, w1⟩ := open_int Tryd.underlying5 (hval 1 5 v1 rfl rfl) h1
  have b1 := wf_u8 w1
  clear hA0
  refine (walk a0 len0 cap0 z0 a1 W (tabs_of hL) w0 s0 b1).mono fun e W' ⟨he, bel⟩ => ?_
  subst he
  exact ⟨_, rfl, _, _, _, [], _, [], hW', trodAll_mk1 (shut_bool Tryd.underlying4 _), (trodAll_cons_mk (Below.trod laidOut (by kernel_rfl) (of_decide_eq_true (by kernel_rfl)) k0 bel lt0) (trodAll_cons_mk (Below.trod laidOut (by kernel_rfl) (of_decide_eq_true (by kernel_rfl)) k1 bel lt1) trodAll_mk0)), rfl, bel.frame _, fun h => by cases h⟩

/-- A world for the witness. -/
noncomputable def laidWorld (os : Os) : World := laidW os
theorem laid_met (os : Os) : laidMetH Tryd.prog Rows.framerBackRow.laid ((laidWorld os).forCall (fun _ _ => 0) ⟨#[], #[.slice none 0 0, .int .u8 0], []⟩).memory := laidW_met os _
theorem reads (os : Os) {H : Type} (enc : TypeId × Value → H) : ∃ places, DataW.whole enc Tryd.prog ((laidWorld os).forCall (fun _ _ => 0) ⟨#[], #[.slice none 0 0, .int .u8 0], []⟩).memory Tryd.f5.params.toList Rows.framerBackSpec.vars false #[Value.slice none 0 0, .int .u8 0].toList 8 = some ([.nil, .lit (.int .u8 0)], [], places) :=
  ⟨[], by kernel_rfl⟩

set_option maxRecDepth 100000 in
theorem lifted (os : Os) (started : os.Started) (H : Type) (enc : TypeId × Value → H) (F : Stop.Interp) :
    ReturnsInHanded {} Tryd.checked os 5 .any ((OpenSpec.ofChange Rows.framerBackSpec).preRow enc Tryd.prog Tryd.f5 Rows.framerBackRow.domain false Rows.framerBackRow.laid) (((OpenSpec.ofChange Rows.framerBackSpec).at F).post enc Tryd.prog Tryd.f5 false true false false) := by
  obtain ⟨places, hx⟩ := reads os enc
  refine returnsInHanded_of_row (C := Tryd.checked) (s := (OpenSpec.ofChange Rows.framerBackSpec)) own started (by kernel_rfl) Tryd.func5
    (witness_row_at (enc := enc) (C := Tryd.checked) false (laidWorld os) #[.slice none 0 0, .int .u8 0] rfl (by kernel_rfl) (by kernel_rfl) (by kernel_rfl)
      (OpenSpec.preRow_of_cond 8 hx (by kernel_rfl) (fun k hk => by cases hk) (by kernel_rfl) (laid_met os))) ?_
  intro W base args ds gs before hval hW _ hcnd hsz hL _ _
  exact contract F H enc W base args ds gs before hval hW  hsz hL

theorem said : Rows.FramerBackSaid :=
  OpenClaim.holds_of_cond 5 Tryd.f5 rfl rfl rfl rfl rfl rfl rfl ⟨rfl, rfl, rfl, rfl, rfl⟩ rfl rfl rfl rfl rfl (by kernel_rfl) Tryd.func5 (by kernel_rfl)
    (of_decide_eq_true (by kernel_rfl)) (by unfold Func.isWrapper; first | (rw [if_pos (by decide +kernel)]; kernel_rfl) | (rw [if_neg (by decide +kernel)]; exact ⟨rfl, rfl⟩))
    (fun os started H enc _ F => by rw [OpenClaim.pre_eq_preRow]; exact lifted os started H enc F)

theorem plain (f : FuncId) (fn : Func) (hf : Tryd.pinned.checked.prog.funcNamed "crier/crierlaw12.FramerBack" = some f) (hfn : Tryd.pinned.checked.prog.funcs[f]? = some fn) :
    true = Tryd.pinned.checked.prog.looks [] ∧ ∀ (j : Nat) t, fn.params[j]? = some t → Tryd.pinned.checked.prog.wantsStandIn t = false := by
  obtain rfl : f = 5 := Option.some.inj ((show Tryd.prog.funcNamed "crier/crierlaw12.FramerBack" = some 5 by kernel_rfl).symm.trans hf) |>.symm
  obtain rfl : fn = Tryd.f5 := (Option.some.inj (Tryd.func5.symm.trans hfn)).symm
  refine ⟨by kernel_rfl, fun j t ht => ?_⟩
  rw [Tryd.params5] at ht
  have : t = 5 ∨ t = 43 := by have := Array.mem_of_getElem? ht; simp at this; first | exact this | omega | grind
  rcases this with rfl | rfl
  · exact (show Tryd.prog.wantsStandIn 5 = false by kernel_rfl)
  · exact (show Tryd.prog.wantsStandIn 43 = false by kernel_rfl)

/-- THE CARD. -/
theorem proved : Rows.FramerBackCardSaid :=
  Claim7.holds_tied_plain_at .later [] _ _ _ _ said (fun _ h => by cases h) (by kernel_rfl) (fun _ h => by cases h) framerBack_row_tie rfl ⟨rfl, rfl⟩ (by kernel_rfl) rfl plain (by kernel_rfl)
end Go.Proofs.YtceiipcdkonnlaaDoor.framerBack

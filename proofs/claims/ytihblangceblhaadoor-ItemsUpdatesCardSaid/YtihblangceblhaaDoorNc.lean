/-
  LAYER 31: the document's table of aliases: Drop and Set where nothing is in it.
-/
import Derived.Test.YtihblangceblhaaDoorNb
import Derived.Deep.RegionHeld3
import Derived.Deep.AppendLies
import Derived.Deep.DeepMust
import Derived.Deep.RegionLaw
namespace Go.Proofs.YtihblangceblhaaDoor
set_option linter.unusedVariables false
set_option linter.unusedSimpArgs false
open Go.RowKit
set_option maxHeartbeats 4000000 in
set_option maxRecDepth 100000 in
theorem rtdrop_any {w : World} {B x : Nat} {v : Value} (h : Tx w B x [] v) (o : ByteArray) :
    Calls Tryd.prog 29 #[.pointer (some ⟨x, 0, none⟩), .string o] w fun e w' => e = .returned (.int .i64 0) ∧ w' = w.setCell ⟨x, 0, none⟩ (.slice none 0 0) := by
  obtain ⟨va, vc, rfl⟩ := own_slice h.own
  have cx : w.cell? ⟨x, 0, none⟩ = some (.slice va 0 vc) := by rw [cell_of_row w x 0 _ 49 (0, 0) h.row]; rfl
  have fx : w.frozen? ⟨x, 0, none⟩ = false := frozen_of_row _ _ _ _ 49 h.row
  clear h
  go_enter Tryd.func29, Tryd.ntmps29
  go_wp2
  go_loopw [5, 6] (fun n i wr => n = .slice none 0 0 ∧ i = .int .i64 0 ∧ wr = w) (fun _ _ _ => 0)
  case atStart => exact ⟨rfl, rfl, rfl⟩
  case round =>
    obtain ⟨rfl, rfl, rfl⟩ := hrel
    go_wp2
    go_ret
    exact ⟨rfl, rfl⟩
def zE : Value := .agg #[.int .u64 0, .string ⟨#[]⟩, .string ⟨#[]⟩]
theorem info74 : ∃ i, Tryd.prog.info? 74 = some i ∧ i.zero = some zE ∧ i.size = 3 ∧ i.bytes = 40 := by
  have h : (Tryd.prog.info? 74).map (fun i => (i.zero, i.size, i.bytes)) = some (some zE, 3, 40) := by kernel_rfl
  cases hi : Tryd.prog.info? 74 with
  | none => rw [hi] at h; cases h
  | some i =>
    rw [hi] at h
    simp only [Option.map_some, Option.some.injEq, Prod.mk.injEq] at h
    exact ⟨i, rfl, h.1, h.2.1, h.2.2⟩
theorem setX {w : World} {g j : Nat} {cs : Array Value} (h : w.heap[g]? = some (.cells cs 49 (0, 0))) (u : Value) : (w.setCell ⟨g, j, none⟩ u).heap[g]? = some (.cells (cs.setIfInBounds j u) 49 (0, 0)) :=
  heap_setCell_same w g j _ 49 u h
theorem rwC_snoc (T : List En) (e : En) : rwC (T ++ [e]) = rwC T ++ rwV e := by simp [rwC]
theorem tx_push {w w' w1 : World} {B x gg cap : Nat} {T : List En} {v : Value} {e : En} (h : Tx w B x T v) (hx : Below w.heap.size w w') (hgrow : w'.grownBy w1 v.ownBlock) (hl : T.length < 100000)
    (hown1 : w1.ownsRow B 74 3 (.slice (some ⟨gg, 0, none⟩) (T.length + 1) cap) (T.length + 1) (rwC T ++ rwV e)) :
    Tx (w1.setCell ⟨x, 0, none⟩ (.slice (some ⟨gg, 0, none⟩) (T.length + 1) cap)) B x (T ++ [e]) (.slice (some ⟨gg, 0, none⟩) (T.length + 1) cap) := by
  have hlt : x < w.heap.size := (Array.getElem?_eq_some_iff.1 h.row).1
  have Rx := (hx.block x hlt).trans h.row
  have hne := own_far h.own h.row (by decide : (49 : TypeId) ≠ 74)
  have R1 := (hgrow.block x (Nat.lt_of_lt_of_le hlt hx.size) hne).trans Rx
  refine ⟨by simpa using setX R1 (j := 0) (.slice (some ⟨gg, 0, none⟩) (T.length + 1) cap), ?_, by simp; omega⟩
  have := own_grown hown1 R1 (by decide) (gset w1 x 0 (.slice (some ⟨gg, 0, none⟩) (T.length + 1) cap))
  rw [rwC_snoc]
  simpa using this
theorem own_ge {w : World} {B e size n : Nat} {v : Value} {xs : List Value} (h : w.ownsRow B e size v n xs) : ∀ j, v.ownBlock = some j → B ≤ j := by
  rcases h.2 with ⟨rfl, rfl⟩ | ⟨g, cap, cur, rfl, hb, _⟩
  · intro j hj; simp [Value.ownBlock] at hj
  · intro j hj
    simp only [Value.ownBlock, Option.some.injEq] at hj
    omega
def rtsT (o : ByteArray) (l : List It) : List En := if tryE [] o l = 0 then ents o l else []
def RtsetP (x : Nat) (o : ByteArray) (l : List It) (w : World) (e : Ending) (w' : World) : Prop :=
  e = .returned (.int .i64 (tryE [] o l)) ∧ (∃ B v', Tx w' B x (rtsT o l) v') ∧ w.grownBy w' (some x)
set_option maxHeartbeats 4000000 in
set_option maxRecDepth 100000 in
theorem rtset_any {w : World} {B x : Nat} {v : Value} (h : Tx w B x [] v) (o : ByteArray) {vl : Value} {l : List It} (hl : ItsAt w vl l) (hlen : l.length ≤ 1000) :
    Calls Tryd.prog 17 #[.pointer (some ⟨x, 0, none⟩), .string o, vl] w (RtsetP x o l w) := by
  have TR := Lib.hid (rttry_any h o hl (by omega))
  have DR := Lib.hid (fun w' (hb : Below w.heap.size w w') => rtdrop_any (h.keep hb) o)
  have hxs : x < w.heap.size := (Array.getElem?_eq_some_iff.1 h.row).1
  have hxv := own_slice h.own
  have H := Lib.hid h
  obtain ⟨a, cap, rfl, -, hc⟩ := hl
  have hlen' : (l.length : Int) ≤ 1000 := by omega
  obtain ⟨E, hE⟩ : ∃ E, E = tryE [] o l := ⟨_, rfl⟩
  unfold RtsetP rtsT
  rw [← hE] at TR ⊢
  clear h
  by_cases h0 : E = 0
  · rw [if_pos h0]
    subst h0
    obtain ⟨i3, hi3, hz0, hz1, hz2⟩ := info74
    replace hE := Lib.hid hE
    replace hc := Lib.hid hc
    go_enter Tryd.func17, Tryd.ntmps17
    go_wp2_with (first | (go_at_call 28; refine TR.out.mono ?_; rintro e w1 ⟨rfl, b1⟩; have DD := DR.out _ b1; replace b1 := Lib.hid b1) | (go_at_call 29; refine DD.mono ?_; rintro e w2 ⟨rfl, rfl⟩; clear DD))
    go_loopw [8] (fun i wr => ∃ (k : Nat) (v' : Value), i = .int .i64 (k : Int) ∧ k ≤ l.length ∧ (ents o (l.take k)).length ≤ k ∧ Tx wr w.heap.size x (ents o (l.take k)) v' ∧ w.grownBy wr (some x)) (fun i _ => l.length - (intOf i).toNat)
    case atStart => exact ⟨0, .slice none 0 0, rfl, by omega, by simp [ents], ⟨by simpa using setX (j := 0) (H.out.keep b1.out).row (.slice none 0 0), by simpa [ents, rwC] using World.ownsRow_nil _ _ _ _, by simp [ents]⟩, (grown_below b1.out (Nat.le_refl _)).andThen (gset _ x 0 _) (fun j hj => .inr hj)⟩
    case round =>
      obtain ⟨k, v', rfl, hk, hek, ht, hgr⟩ := hrel
      by_cases hend : k = l.length
      · subst hend
        rw [List.take_length] at ht
        replace ht := Lib.hid ht
        replace hgr := Lib.hid hgr
        go_wp2
        go_ret
        exact ⟨rfl, ⟨_, _, ht.out⟩, hgr.out⟩
      have hkl : k < l.length := by omega
      have klt : (k : Int) < (l.length : Int) := by omega
      obtain ⟨y, hy⟩ : ∃ y, l[k]? = some y := ⟨_, List.getElem?_eq_getElem hkl⟩
      have hent := ents_take o l k y hy
      obtain ⟨b, o0, rfl, q1, q2, q0⟩ : ∃ b o0, a = some ⟨b, o0, none⟩ ∧ wr.cell? ⟨b, o0 + k * 8 + 1, none⟩ = some (.bool y.a1) ∧ wr.cell? ⟨b, o0 + k * 8 + 2, none⟩ = some (.int .u64 y.a2) ∧ wr.cell? ⟨b, o0 + k * 8, none⟩ = some (.string y.a0) := by
        rcases hc.out with h | ⟨b, o0, ha, hbl, hcell⟩
        · subst h; simp at hkl
        · have hne : b ≠ x := by
            rintro rfl
            obtain ⟨va, vc, rfl⟩ := hxv
            have h1 := hcell k y hy 0 _ rfl
            rw [cell_of_row w b _ _ 49 (0, 0) H.out.row] at h1
            rcases hq : o0 + k * 8 + 0 with _ | q <;> simp [hq] at h1
          have gg : ∀ j u, y.cells[j]? = some u → wr.cell? ⟨b, o0 + k * 8 + j, none⟩ = some u := fun j u hu => (hgr.cell_far ⟨b, o0 + k * 8 + j, none⟩ hbl (by simpa using hne)).trans (hcell k y hy j u hu)
          exact ⟨b, o0, ha, gg 1 _ rfl, gg 2 _ rfl, gg 0 _ rfl⟩
      have hxr : x < wr.heap.size := Nat.lt_of_lt_of_le hxs hgr.size
      obtain ⟨va, vc, rfl⟩ := own_slice ht.own
      have cx : wr.cell? ⟨x, 0, none⟩ = some (.slice va (ents o (l.take k)).length vc) := by rw [cell_of_row wr x 0 _ 49 (0, 0) ht.row]; rfl
      have fx : wr.frozen? ⟨x, 0, none⟩ = false := frozen_of_row _ _ _ _ 49 ht.row
      obtain ⟨a0, a1, a2, a3, a4, a5, a6, a7⟩ := y
      simp only at q0 q1 q2 hent
      cases a1 with
      | false =>
        simp only [Bool.false_eq_true, if_false, List.append_nil] at hent
        replace hy := Lib.hid hy
        replace ht := Lib.hid ht
        replace hgr := Lib.hid hgr
        replace hent := Lib.hid hent
        go_wp2
        go_roundw
        case rel => exact ⟨k + 1, _, by simp, by omega, by rw [hent.out]; omega, by rw [hent.out]; exact ht.out, hgr.out⟩
        case measure => simp [intOf]; omega
      | true =>
        simp only [if_true] at hent
        obtain ⟨T, hT⟩ : ∃ T, T = ents o (l.take k) := ⟨_, rfl⟩
        rw [← hT] at hent ht hek cx
        have far := (own_far ht.own ht.row (by decide : (49 : TypeId) ≠ 74)).symm
        have KB : Hid (∀ W : World, Below wr.heap.size wr W → W.ownsRow w.heap.size 74 3 (.slice va T.length vc) T.length (rwC T)) := Lib.hid fun W hW => own_keep ht.own hW
        have KN : Hid (∀ W : World, W.heap[wr.heap.size]? = some (.cells #[.int .u64 a2, .string o, .string a0] 74 (0, 0)) → ∀ j u, (rwV ⟨a2, o, a0⟩)[j]? = some u → W.cell? ((⟨wr.heap.size, 0, none⟩ : Addr).add j) = some u) := Lib.hid fun W hW => World.news_of_block hW
        have hgs := hgr.size
        have kle : k ≤ 1000 := by omega
        replace hy := Lib.hid hy
        replace ht := Lib.hid ht
        replace hgr := Lib.hid hgr
        replace hent := Lib.hid hent
        replace hT := Lib.hid hT
        go_wp2_with fail
        go_region_law (go_must (refine step_append_lies _ rfl (.tmp 34) (.tmp 47) 47 rfl w.heap.size 74 i3 zE 3 40 Tryd.underlying47 hi3 hz0 hz1 hz2 rfl (by decide) (.slice va T.length vc) T.length (rwC T) rfl (KB.out _ (by first | exact ext_alloc wr _ | exact ext_trans (ext_alloc wr _) (ext_drew _) | exact ext_trans (ext_drew wr) (ext_alloc wr.drew _))) ⟨wr.heap.size, 0, none⟩ 1 1 (rwV ⟨a2, o, a0⟩) rfl rfl (KN.out _ (by first | exact heap_alloc_new wr _ | exact heap_alloc_new wr.drew _)) (by intro u hu; simp [rwV] at hu; rcases hu with rfl | rfl | rfl <;> rfl) (by decide) (by unfold maxLen; omega) (by omega) (by simp; omega) (wr.heap.size + 1) (by simp) ?_); intro gg cap9 w3 hown1 hgrow hat hlt1; have hc1 := (hgrow.cell_far ⟨x, 0, none⟩ (by simp; omega) (Ne.symm far)); have hf1 := (hgrow.frozen_far ⟨x, 0, none⟩ (by simp; omega) (Ne.symm far)); replace hat := Lib.hid hat; replace hgrow := Lib.hid hgrow; replace hown1 := Lib.hid hown1)
        all_goals
          go_wp2
          go_roundw
          case rel =>
            refine ⟨k + 1, .slice (some ⟨gg, 0, none⟩) (T.length + 1) cap9, by simp, by omega, by rw [hent.out]; simp; omega, ?_, ?_⟩
            · rw [hent.out]
              refine tx_push ht.out ?_ hgrow.out (by omega) hown1.out
              first | exact ext_alloc wr _ | exact ext_trans (ext_alloc wr _) (ext_drew _) | exact ext_trans (ext_drew wr) (ext_alloc wr.drew _)
            · refine ((grown_trans hgr.out (grown_below ?_ (Nat.le_refl _))).andThen hgrow.out (fun j hj => .inl (own_ge ht.out.own j hj))).andThen (gset _ x 0 _) (fun j hj => .inr hj)
              first | exact ext_alloc wr _ | exact ext_trans (ext_alloc wr _) (ext_drew _) | exact ext_trans (ext_drew wr) (ext_alloc wr.drew _)
          case measure => simp [intOf]; omega
  · rw [if_neg h0]
    have hd : (E != 0) = true := by simpa using h0
    replace h0 := Lib.hid h0
    replace hE := Lib.hid hE
    replace hc := Lib.hid hc
    go_enter Tryd.func17, Tryd.ntmps17
    go_wp2_with (first | (go_at_call 28; refine TR.out.mono ?_; rintro e w1 ⟨rfl, b1⟩; replace b1 := Lib.hid b1))
    go_ret
    exact ⟨rfl, ⟨B, _, H.out.keep b1.out⟩, grown_below b1.out (Nat.le_refl _)⟩
end Go.Proofs.YtihblangceblhaaDoor

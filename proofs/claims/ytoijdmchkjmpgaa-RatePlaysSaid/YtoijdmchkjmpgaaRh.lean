/-
  LAYER 35: Keys; sorted lists of keys.
-/
import Derived.Test.YtoijdmchkjmpgaaRg
import Derived.Test.YtoijdmchkjmpgaaShelf
import Derived.Shelf.Slices.In.SortNone
import Derived.Sort.Walk0
import Derived.Sort.OwnSorted
namespace Go.Proofs.Ytoijdmchkjmpgaa.Rte
open Go.RowKit Que Hp Hg
theorem info9 : (Try.prog.info? 9).map (fun i => (i.zero, i.size, i.bytes)) = some (some (.string { data := #[] }), 1, 16) := by kernel_rfl
def sl (l : List ByteArray) : List Value := l.map Value.string
/-- The keys, rising. -/
def Srt (L : List Gr) : Prop := L.Pairwise fun a b => a.k.toList < b.k.toList
theorem lt_tri {a b : List UInt8} (h : ¬ a < b) (hne : a ≠ b) : b < a := by
  apply Classical.byContradiction
  intro h2
  exact hne (List.le_antisymm (List.not_lt.1 h2) (List.not_lt.1 h))
theorem kl_inj {a b : ByteArray} (h : a.toList = b.toList) : a = b := by
  rw [ByteArray.toList_eq, ByteArray.toList_eq] at h
  cases a; cases b; simp only [Array.toList_inj] at h; rw [h]
theorem ltS_iff (a b : ByteArray) : ltS a b = decide (a.toList < b.toList) := Go.Proofs.bytesLess_eq _ _
theorem Srt.nd {L : List Gr} (h : Srt L) : Nd L := List.Pairwise.imp (R := fun a b : Gr => a.k.toList < b.k.toList) (S := fun a b : Gr => a.k ≠ b.k) (fun {a b} hab e => List.lt_irrefl b.k.toList (by rw [e] at hab; exact hab)) h
def keysOf (L : List Gr) : List (List UInt8) := L.map fun e => e.k.toList
/-- Those that have the same keys, sorted. -/
theorem sort_keys {G L : List Gr} (hn : Nd G) (hs : Srt L) (hl : ∀ x, lst L x = lst G x) : (keysOf G).mergeSort (fun x y => decide (x ≤ y)) = keysOf L := by
  have hp : List.Perm (keysOf G) (keysOf L) := by
    rw [List.perm_ext_iff_of_nodup]
    · intro a
      simp only [keysOf, List.mem_map]
      constructor
      · rintro ⟨e, he, rfl⟩
        have := lst_of hn he
        rw [← hl] at this
        obtain ⟨e', h1, h2, -⟩ := lst_some this
        exact ⟨e', h1, by rw [h2]⟩
      · rintro ⟨e, he, rfl⟩
        have := lst_of hs.nd he
        rw [hl] at this
        obtain ⟨e', h1, h2, -⟩ := lst_some this
        exact ⟨e', h1, by rw [h2]⟩
    · unfold keysOf List.Nodup
      rw [List.pairwise_map]
      exact List.Pairwise.imp (fun {a b} hab e => hab (kl_inj e)) hn
    · unfold keysOf List.Nodup
      rw [List.pairwise_map]
      exact List.Pairwise.imp (fun {a b} hab e => hab (kl_inj e)) hs.nd
  refine List.Perm.eq_of_pairwise (le := fun a b : List UInt8 => a ≤ b) (fun a b _ _ h1 h2 => List.le_antisymm h1 h2) ?_ ?_ ((List.mergeSort_perm _ _).trans hp)
  · have := List.pairwise_mergeSort (le := fun x y : List UInt8 => decide (x ≤ y)) (fun a b c h1 h2 => by simp at h1 h2 ⊢; exact List.le_trans h1 h2) (fun a b => by simp; exact List.le_total a b) (keysOf G)
    exact this.imp (fun {a b} h => by simpa using h)
  · unfold keysOf
    rw [List.pairwise_map]
    exact List.Pairwise.imp (fun {a b} hab => List.not_lt.1 (fun h2 => List.lt_irrefl _ (List.lt_trans hab h2))) hs
theorem enc_k (k : ByteArray) : encStr k.toList = .string k := by
  unfold encStr
  rw [ByteArray.toList_eq]
def KeysP (L : List (List UInt8)) (w : World) (e : Ending) (w' : World) : Prop := ∃ v, e = .returned v ∧ w'.ownsRow w.heap.size 9 1 v L.length (L.map encStr) ∧ Below w.heap.size w w'
theorem sort_any {B : Nat} {w : World} {v : Value} {ss : List (List UInt8)} (h : w.ownsRow B 9 1 v ss.length (ss.map encStr)) (hl : ss.length ≤ 1000) : Calls Try.prog 61 #[v] w fun e w' => e = .returned (.tuple #[]) ∧ w'.ownsRow B 9 1 v ss.length ((ss.mergeSort fun x y => decide (x ≤ y)).map encStr) ∧ w.grownBy w' v.ownBlock := by
  rcases h.2 with ⟨rfl, h0⟩ | ⟨g, cap, cur, rfl, hbase, hb, h1, h2, h3, h4⟩
  · have hs : ss = [] := List.eq_nil_of_length_eq_zero h0
    subst hs
    refine (Any.slices_Sort_string_none Try.lays190 none 0 w).mono ?_
    rintro e w' ⟨rfl, rfl⟩
    exact ⟨rfl, by simpa using h, ⟨rfl, rfl, rfl, Nat.le_refl _, fun _ _ _ => rfl⟩⟩
  · refine (Try.slices_Sort_string g 0 cap ss w (holds_of_block hb (by simpa using h4)) (Array.getElem?_eq_some_iff.1 hb).1 (by omega)).mono ?_
    rintro e w' ⟨rfl, n, os, rfl⟩
    exact ⟨rfl, ownsRow_sorted (by simp) hbase hb h1 h2 (by simpa using h3), grownBy_sorted _⟩
section
variable {A : Nat → Prop} {w w' : World} {g : Nat} {gap : Int} {G L : List Gr} {v : Value}
set_option maxHeartbeats 8000000 in
set_option maxRecDepth 100000 in
theorem keys_any (h : Rt 0 w g gap v G) (hG : G.length ≤ 8) : Calls Try.prog 48 #[.pointer (some ⟨g, 0, none⟩)] w (KeysP ((keysOf G).mergeSort fun x y => decide (x ≤ y)) w) := by
  obtain ⟨i9, hi9, hz0, hz1, hz2⟩ := info_parts info9
  have N := Lib.hid (none_any h)
  have c2 := h.c2
  obtain ⟨a, c, rfl⟩ := own_slice h.its
  have hG' : (G.length : Int) ≤ 8 := by omega
  have hll : ∀ k, (keysOf (G.take k)).length ≤ 8 := fun k => by unfold keysOf; rw [List.length_map, List.length_take]; omega
  have hkl : (keysOf G).length = G.length := by unfold keysOf; simp
  replace h := Lib.hid h
  replace hll := Lib.hid hll
  replace hkl := Lib.hid hkl
  go_enter Try.func48, Try.ntmps48
  go_wp2_with fail
  refine N.out.mono ?_
  rintro e w1 ⟨rfl, rfl⟩
  go_wp2_with fail
  go_loopw [3, 13] (fun v iv wr => ∃ k : Nat, iv = .int .i64 (k : Int) ∧ k ≤ G.length ∧ wr.ownsRow w.heap.size 9 1 v (keysOf (G.take k)).length ((keysOf (G.take k)).map encStr) ∧ Below w.heap.size w wr) (fun _ iv _ => G.length - (intOf iv).toNat)
  case atStart => exact ⟨0, rfl, by omega, World.ownsRow_nil _ _ _ _, Below.refl _ _⟩
  case round =>
    obtain ⟨k, rfl, hk, o, hb⟩ := hrel
    have HB := Lib.hid hb
    have hl8 := hll.out k
    obtain ⟨M, hM⟩ : ∃ M, M = keysOf (G.take k) := ⟨_, rfl⟩
    rw [← hM] at o hl8
    by_cases hlt : k < G.length
    · obtain ⟨va, vc, rfl⟩ := own_slice o
      have hlt' : (k : Int) < (G.length : Int) := by omega
      obtain ⟨e, he⟩ : ∃ e, G[k]? = some e := ⟨_, List.getElem?_eq_getElem hlt⟩
      obtain ⟨gb, cb, hv⟩ := own_slice' h.out.its (by omega)
      obtain ⟨q0, q1⟩ := (h.out.keep hb).at hv he
      simp only [Value.slice.injEq] at hv
      obtain ⟨rfl, -, rfl⟩ := hv
      have sz := hb.size
      have E : keysOf (G.take (k + 1)) = M ++ [e.k.toList] := by
        obtain ⟨h1, h2⟩ := List.getElem?_eq_some_iff.1 he
        rw [List.take_succ_eq_append_getElem h1, h2, hM]
        simp [keysOf]
      have hba := ext_alloc wr (.cells #[.string e.k, .int .i64 e.t] 109)
      have oA := Lib.hid (own_keep (own_keep o hba) (ext_alloc (wr.alloc (.cells #[.string e.k, .int .i64 e.t] 109)) (.cells #[.string e.k] 9)))
      have sz2 := Lib.hid (show w.heap.size ≤ (wr.alloc (.cells #[.string e.k, .int .i64 e.t] 109)).heap.size from Nat.le_trans sz hba.size)
      have hnew : Hid (∀ j u, ([Value.string e.k] : List Value)[j]? = some u → ((wr.alloc (.cells #[.string e.k, .int .i64 e.t] 109)).alloc (.cells #[.string e.k] 9)).cell? ((⟨wr.heap.size + 1, 0, none⟩ : Addr).add j) = some u) := Lib.hid (by
        intro j u hj
        have h2 := heap_alloc_new (wr.alloc (.cells #[.string e.k, .int .i64 e.t] 109)) (.cells #[.string e.k] 9)
        rw [World.size_alloc] at h2
        have := cell_of_row ((wr.alloc (.cells #[.string e.k, .int .i64 e.t] 109)).alloc (.cells #[.string e.k] 9)) (wr.heap.size + 1) j _ 9 (0, 0) h2
        rw [add_off', Nat.zero_add, this, ← hj]
        simp)
      have B2 := Lib.hid hba
      have EK := Lib.hid (enc_k e.k)
      replace E := Lib.hid E
      replace hM := Lib.hid hM
      clear hb he hba o
      go_wp2_with (first
        | (at_builtin; go_must (refine wpList_append_own _ rfl (.tmp 17) (.tmp 20) 74 rfl w.heap.size 9 i9 (.string { data := #[] }) 1 16 Try.underlying74 hi9 hz0 hz1 hz2 rfl (by decide) (.slice va M.length vc) M.length (M.map encStr) rfl oA.out ⟨wr.heap.size + 1, 0, none⟩ 1 1 [.string e.k] rfl rfl hnew.out (by intro u hu; simp at hu; subst hu; rfl) (by unfold maxLen; omega) (by omega) (by simp; omega) ?_); intro v3 w3 o3 g3 _))
      go_roundw
      case rel => exact ⟨k + 1, by simp, by omega, by rw [E.out, List.map_append, List.map_singleton, EK.out]; simpa using o3, (((HB.out.trans (B2.out.mono sz)).alloc sz2.out _).grown g3 (by simp; omega) (fun j hj => (oA.out.lt j hj).1))⟩
      case measure => simp [intOf]; omega
    · obtain rfl : k = G.length := by omega
      rw [List.take_length] at hM
      subst hM
      have SO := Lib.hid (sort_any o (by omega))
      have olt := Lib.hid (fun j hj => (o.lt j hj).1)
      obtain ⟨va, vc, rfl⟩ := own_slice o
      have hms : ((keysOf G).mergeSort fun x y => decide (x ≤ y)).length = (keysOf G).length := by simp
      replace hms := Lib.hid hms
      have sz := Lib.hid hb.size
      clear hb hk o hl8
      go_wp2_with fail
      refine SO.out.mono ?_
      rintro e w3 ⟨rfl, o3, g3⟩
      have O3 := Lib.hid o3
      have B3 := Lib.hid (HB.out.grown g3 sz.out olt.out)
      clear o3 g3 SO
      go_wp2_with fail
      go_ret
      exact ⟨_, rfl, by rw [hms.out]; exact O3.out, B3.out⟩
theorem rkeys (h : Rs A w g gap G) (hs : Srt L) (hl : ∀ x, lst L x = lst G x) : Calls Try.prog 48 #[.pointer (some ⟨g, 0, none⟩)] w (KeysP (keysOf L) w) := by
  obtain ⟨v, G', r, p, hp, av⟩ := h.ex
  have := keys_any r (by rw [p.length_eq]; exact h.le)
  rwa [sort_keys (h.nd.perm p) hs (fun x => by rw [hl, lst_perm h.nd p])] at this
end
end Go.Proofs.Ytoijdmchkjmpgaa.Rte

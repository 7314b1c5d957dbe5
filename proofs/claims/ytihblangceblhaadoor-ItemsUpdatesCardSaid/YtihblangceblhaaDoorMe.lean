/-
  LAYER 31: the items of a birth, on the program's side.
-/
import Derived.Test.YtihblangceblhaaDoorMd
import Derived.Test.YtihblangceblhaaDoorOw
namespace Go.Proofs.YtihblangceblhaaDoor
set_option linter.unusedVariables false
set_option linter.unusedSimpArgs false
open Go.RowKit
def bornF : List Mt → List It → List It × Int
  | [], acc => (acc, 1)
  | f :: r, acc => if f.n = ⟨#[]⟩ then ([], 7) else if (plc acc f.n).isSome then ([], 10) else bornF r (acc ++ [itm f])
def bornR (l : List Mt) : List It × Int := if 32 < l.length then ([], 8) else bornF l []
def errV (n : Int) : Value := if n = 1 then .nilIface else .iface 81 (.agg #[.int .i64 n])
def BornP (l : List Mt) (w : World) (e : Ending) (w' : World) : Prop := ∃ v, e = .returned (.tuple #[v, errV (bornR l).2]) ∧ ItsAt w' v (bornR l).1 ∧ Below w.heap.size w w'
theorem drop_cons {α : Type} {l : List α} {k : Nat} {x : α} (h : l[k]? = some x) : l.drop k = x :: l.drop (k + 1) := by
  obtain ⟨hk, rfl⟩ := List.getElem?_eq_some_iff.1 h
  exact List.drop_eq_getElem_cons hk
theorem ne_nil (n : ByteArray) (h : ¬ n = ⟨#[]⟩) : n.toList.isEmpty = false ∧ (n.toList == []) = false := by
  have : n.toList ≠ [] := fun e => h (by apply ByteArray.ext; rw [ByteArray.toList_eq] at e; exact Array.toList_eq_nil_iff.1 e)
  cases e : n.toList with
  | nil => exact absurd e this
  | cons a b => exact ⟨rfl, rfl⟩
/-- A struct of items of one's own, one longer. -/
theorem own_below1 {B : Nat} {w0 w w' : World} {v : Value} {n : Nat} {xs : List Value} (hb : Below B w0 w) (hB : B ≤ w.heap.size) (ho : w.ownsRow B 37 8 v n xs) (hg : w.grownBy w' v.ownBlock) : Below B w0 w' :=
  hb.grown hg hB (fun k hk => (ho.lt k hk).1)
set_option maxHeartbeats 16000000 in
set_option maxRecDepth 100000 in
theorem born_any (v : Value) (l : List Mt) (w : World) (h : MtsAt w v l) (hok : ∀ f ∈ l, f.ok) : Calls Tryd.prog 22 #[v] w (BornP l w) := by
  unfold BornP bornR
  obtain ⟨a, cap, rfl, hlen, hc⟩ := h
  have hlen' : (l.length : Int) ≤ 140737488355328 := by omega
  replace hc := Lib.hid hc
  replace hok := Lib.hid hok
  by_cases h32 : 32 < l.length
  · rw [if_pos h32]
    have h32' : (32 : Int) < (l.length : Int) := by omega
    go_enter Tryd.func22, Tryd.ntmps22
    go_wp2
    go_ret2
    exact ⟨_, rfl, itsAt_nil _, Below.refl _ _⟩
  rw [if_neg h32]
  have h32' : ¬ (32 : Int) < (l.length : Int) := by omega
  obtain ⟨R, hR⟩ : ∃ R, R = bornF l [] := ⟨_, rfl⟩
  rw [← hR]
  replace hR := Lib.hid hR
  go_enter Tryd.func22, Tryd.ntmps22
  go_wp2
  go_loopw [4, 14] (fun c i wr => ∃ (k : Nat) (L : List It), i = .int .i64 k ∧ k ≤ l.length ∧ L.length = k ∧ R = bornF (l.drop k) L ∧ wr.ownsRow w.heap.size 37 8 c L.length (itsAtC L) ∧ Below w.heap.size w wr) (fun _ i _ => l.length - (intOf i).toNat)
  case atStart => exact ⟨0, [], rfl, by omega, rfl, hR.out, World.ownsRow_nil _ _ _ _, Below.refl _ _⟩
  case round =>
    obtain ⟨k, L, rfl, hk, hL, hRk, ho, hb⟩ := hrel
    obtain ⟨va, vc, rfl⟩ := own_slice ho
    replace ho := Lib.hid ho
    replace hb := Lib.hid hb
    replace hRk := Lib.hid hRk
    by_cases hend : k = l.length
    · subst hend
      have hF : R = (L, 1) := by rw [hRk.out, List.drop_length]; rfl
      replace hF := Lib.hid hF
      replace hL := Lib.hid hL
      go_wp2
      go_ret2
      refine ⟨_, by rw [hF.out]; rfl, ?_, hb.out⟩
      rw [hF.out]
      exact ItsAt.of_own ho.out (by have := hL.out; show L.length ≤ _; omega)
    replace hL := Lib.hid hL
    have hkl : k < l.length := by omega
    have klt : (k : Int) < (l.length : Int) := by omega
    obtain ⟨f, hf⟩ : ∃ f, l[k]? = some f := ⟨_, List.getElem?_eq_getElem hkl⟩
    have fok := hok.out f (List.mem_of_getElem? hf)
    obtain ⟨b, o, rfl, hbl, e0, e1, e2, e3, e4, e5, e6, e7, e8, e9, e10, e11, e12, e13, e14⟩ := mtsAt_at hf hb.out hc.out
    rw [drop_cons hf] at hRk
    have O1 := of_any f
    obtain ⟨n, ha, al, ti, ty, hi, tr, nu, vm, vp, kk, nn, s, vs, vt⟩ := f
    obtain ⟨s1, s2, s3, s4⟩ := Mt.sl _ fok
    simp only at e0 e1 e2 e3 e4 e5 e6 e7 e8 e9 e10 e11 e12 e13 e14 s1 s2 s3 s4
    obtain ⟨p1, p2, p3, rfl⟩ := s1
    obtain ⟨p4, p5, p6, rfl⟩ := s2
    obtain ⟨p7, p8, p9, rfl⟩ := s3
    obtain ⟨p10, p11, p12, rfl⟩ := s4
    replace hf := Lib.hid hf
    replace fok := Lib.hid fok
    replace O1 := Lib.hid O1
    by_cases hn : n = ⟨#[]⟩
    · subst hn
      have hF : R = ([], 7) := by rw [hRk.out]; simp [bornF]
      replace hF := Lib.hid hF
      go_wp2
      go_ret2
      refine ⟨_, by rw [hF.out]; rfl, ?_, hb.out.trans ((ext_alloc _ _).mono hb.out.size)⟩
      rw [hF.out]
      exact itsAt_nil _
    obtain ⟨n1, n2⟩ := ne_nil n hn
    have hRn : R = if (plc L n).isSome then ([], 10) else bornF (l.drop (k + 1)) (L ++ [itm ⟨n, ha, al, ti, ty, hi, tr, nu, .slice p1 p2 p3, .slice p4 p5 p6, kk, nn, s, .slice p7 p8 p9, .slice p10 p11 p12⟩]) := by rw [hRk.out]; simp only [bornF, if_neg hn]
    have A1 := Lib.hid (ext_alloc wr (.cells #[.string n, .bool ha, .int .u64 al, .int .u64 ti, .int .u32 ty, .bool hi, .bool tr, .bool nu, .slice p1 p2 p3, .slice p4 p5 p6, .int .i64 kk, .int .u64 nn, .string s, .slice p7 p8 p9, .slice p10 p11 p12] 32))
    have A2 := Lib.hid (below2 wr (.cells #[.string n, .bool ha, .int .u64 al, .int .u64 ti, .int .u32 ty, .bool hi, .bool tr, .bool nu, .slice p1 p2 p3, .slice p4 p5 p6, .int .i64 kk, .int .u64 nn, .string s, .slice p7 p8 p9, .slice p10 p11 p12] 32) (.cells #[.slice va L.length vc] 33))
    have FD := Lib.hid (find_any31 va vc (wr.heap.size + 1) L n ((wr.alloc (.cells #[.string n, .bool ha, .int .u64 al, .int .u64 ti, .int .u32 ty, .bool hi, .bool tr, .bool nu, .slice p1 p2 p3, .slice p4 p5 p6, .int .i64 kk, .int .u64 nn, .string s, .slice p7 p8 p9, .slice p10 p11 p12] 32)).alloc (.cells #[.slice va L.length vc] 33)) ((ItsAt.of_own ho.out (by have := hL.out; omega)).keep A2.out (Nat.le_refl _)) (by rw [cell_of_row _ _ _ _ _ _ (alloc2 wr _ _)]; rfl))
    have ho2 := Lib.hid (own_keep ho.out A2.out)
    have hb2 := Lib.hid (hb.out.trans (A2.out.mono hb.out.size))
    have KM := Lib.hid ((Blk.new wr 32 #[.string n, .bool ha, .int .u64 al, .int .u64 ti, .int .u32 ty, .bool hi, .bool tr, .bool nu, .slice p1 p2 p3, .slice p4 p5 p6, .int .i64 kk, .int .u64 nn, .string s, .slice p7 p8 p9, .slice p10 p11 p12]).alloc (.cells #[.slice va L.length vc] 33))
    replace hRn := Lib.hid hRn
    replace hn := Lib.hid hn
    clear hRk
    go_wp2_with fail
    refine (FD.out).mono ?_
    rintro e w2 ⟨rfl, rfl⟩
    clear FD
    cases hp : plc L n with
    | some j =>
      have hpt : ∃ q, ptrOf va L n = .pointer (some q) := by
        unfold ptrOf
        rw [hp]
        obtain ⟨g, c', e⟩ := own_slice' ho.out (by have := plc_lt hp; omega)
        simp only [Value.slice.injEq] at e
        obtain ⟨rfl, -⟩ := e
        exact ⟨_, rfl⟩
      obtain ⟨q, hq⟩ := hpt
      rw [hq]
      have hF : R = ([], 10) := by rw [hRn.out, hp]; rfl
      replace hF := Lib.hid hF
      replace hp := Lib.hid hp
      replace hq := Lib.hid hq
      clear O1 hRn
      go_wp2
      go_ret2
      refine ⟨_, by rw [hF.out]; rfl, ?_, hb2.out⟩
      rw [hF.out]
      exact itsAt_nil _
    | none =>
      have hq : ptrOf va L n = .pointer none := by unfold ptrOf; rw [hp]
      rw [hq]
      have hF : R = bornF (l.drop (k + 1)) (L ++ [itm ⟨n, ha, al, ti, ty, hi, tr, nu, .slice p1 p2 p3, .slice p4 p5 p6, kk, nn, s, .slice p7 p8 p9, .slice p10 p11 p12⟩]) := by rw [hRn.out, hp]; rfl
      replace hF := Lib.hid hF
      replace hp := Lib.hid hp
      replace hq := Lib.hid hq
      clear hRn
      unfold OfP at O1
      generalize itm ⟨n, ha, al, ti, ty, hi, tr, nu, .slice p1 p2 p3, .slice p4 p5 p6, kk, nn, s, .slice p7 p8 p9, .slice p10 p11 p12⟩ = y at *
      obtain ⟨y0, y1, y2, y3, y4, y5, y6, y7⟩ := y
      unfold It.v at O1
      obtain ⟨i0, z, hi0, hz0, hz1, hz2, hzs⟩ := info37
      replace hi0 := Lib.hid hi0
      replace hz0 := Lib.hid hz0
      replace hz1 := Lib.hid hz1
      replace hz2 := Lib.hid hz2
      replace hzs := Lib.hid hzs
      generalize hW : (wr.alloc (.cells #[.string n, .bool ha, .int .u64 al, .int .u64 ti, .int .u32 ty, .bool hi, .bool tr, .bool nu, .slice p1 p2 p3, .slice p4 p5 p6, .int .i64 kk, .int .u64 nn, .string s, .slice p7 p8 p9, .slice p10 p11 p12] 32)).alloc (.cells #[.slice va L.length vc] 33) = W at *
      clear hW A1 A2
      have sz : Hid ((Tryd.prog.info? 32).map (·.size) = some (#[.string n, .bool ha, .int .u64 al, .int .u64 ti, .int .u32 ty, .bool hi, .bool tr, .bool nu, .slice p1 p2 p3, .slice p4 p5 p6, .int .i64 kk, .int .u64 nn, .string s, .slice p7 p8 p9, .slice p10 p11 p12] : Array Value).size) := Lib.hid (by kernel_rfl)
      go_wp2_with (refine wpList_load_row rfl 32 (.tmp 6) rfl wr.heap.size rfl 32 _ (0, 0) _ KM.out Tryd.underlying32 rfl sz.out ?_)
      refine (O1.out _).mono ?_
      rintro e w3 ⟨rfl, b3⟩
      have ho3 := Lib.hid (own_keep ho2.out b3)
      have hb3 := Lib.hid (hb2.out.trans (b3.mono hb2.out.size))
      have ho4 := Lib.hid (own_keep ho3.out (ext_alloc w3 (.cells #[.string y0, .bool y1, .int .u64 y2, .int .u32 y3, .bool y4, .int .i64 y5, .int .u64 y6, .string y7] 37)))
      have hb4 := Lib.hid (hb3.out.trans ((ext_alloc w3 (.cells #[.string y0, .bool y1, .int .u64 y2, .int .u32 y3, .bool y4, .int .i64 y5, .int .u64 y6, .string y7] 37)).mono hb3.out.size))
      have hx4 : Hid (ItsAt (w3.alloc (.cells #[.string y0, .bool y1, .int .u64 y2, .int .u32 y3, .bool y4, .int .i64 y5, .int .u64 y6, .string y7] 37)) (.slice (some ⟨w3.heap.size, 0, none⟩) 1 1) [⟨y0, y1, y2, y3, y4, y5, y6, y7⟩]) := Lib.hid (its_lit w3 ⟨y0, y1, y2, y3, y4, y5, y6, y7⟩)
      have hl5 : Hid (L.length + [(⟨y0, y1, y2, y3, y4, y5, y6, y7⟩ : It)].length ≤ 100000000) := Lib.hid (by have := hL.out; show L.length + 1 ≤ _; omega)
      have hl4 : L.length ≤ 100 := by have := hL.out; omega
      replace h32 := Lib.hid h32
      clear b3 O1 KM ho ho2 hb hb2 ho3 hb3
      go_wp2_with (at_builtin; refine wpList_append_its _ rfl (.tmp 31) (.tmp 34) 33 rfl w.heap.size 37 i0 z Tryd.underlying33 hi0.out hz0.out hzs.out hz1.out hz2.out (.slice va L.length vc) L [⟨y0, y1, y2, y3, y4, y5, y6, y7⟩] rfl ho4.out hx4.out hl5.out hb4.out.size ?_; intro v5 w5 o5 g5; have B5 := Lib.hid (own_below1 hb4.out hb4.out.size ho4.out g5); have O5 := Lib.hid o5; clear g5 o5)
      go_roundw
      case rel => exact ⟨k + 1, L ++ [⟨y0, y1, y2, y3, y4, y5, y6, y7⟩], by simp, by omega, by rw [List.length_append, hL.out]; rfl, hF.out, O5.out, B5.out⟩
      case measure => simp [intOf]; omega
end Go.Proofs.YtihblangceblhaaDoor

/-
  LAYER 31: the items of a birth, on both sides.
-/
import Derived.Test.YtihblangceblhaaDoorMe
namespace Go.Proofs.YtihblangceblhaaDoor
set_option linter.unusedVariables false
set_option linter.unusedSimpArgs false
open Go.RowKit
theorem bornF_num : ∀ (l : List Mt) (acc : List It), (bornF l acc).2 = 1 ∨ ((bornF l acc).2 ≠ 1 ∧ (bornF l acc).1 = [])
  | [], acc => .inl rfl
  | f :: r, acc => by
    unfold bornF
    split
    · exact .inr ⟨by simp, rfl⟩
    · split
      · exact .inr ⟨by simp, rfl⟩
      · exact bornF_num r _
theorem bornR_num (l : List Mt) : (bornR l).2 = 1 ∨ ((bornR l).2 ≠ 1 ∧ (bornR l).1 = []) := by
  unfold bornR
  split
  · exact .inr ⟨by simp, rfl⟩
  · exact bornF_num l []
theorem told_any (v : Value) (l : List It) (n : Int) (w : World) (ht : Tabs w) (h : ItsAt w v l) (hn : n = 1 ∨ (n ≠ 1 ∧ l = [])) : Calls Tryd.prog 21 #[v, errV n] w (ToldP l n w) := by
  unfold errV
  rcases hn with rfl | ⟨hn, rfl⟩
  · exact told_ok v l w h
  · rw [if_neg hn]
    exact told_err v n w ht
/-- The program's Born. -/
theorem pborn_any (v : Value) (l : List Mt) (w : World) (ht : Tabs w) (h : MtsAt w v l) (hok : ∀ f ∈ l, f.ok) : Calls Tryd.prog 7 #[v] w (ToldP (bornR l).1 (bornR l).2 w) := by
  have A := Lib.hid (born_any v l w h hok)
  have N := bornR_num l
  unfold BornP at A
  generalize bornR l = R at *
  obtain ⟨L, n⟩ := R
  simp only at A N ⊢
  have HT := Lib.hid ht
  have N' := Lib.hid N
  obtain ⟨a, cap, rfl, -, -⟩ := h
  clear hok ht N
  go_enter Tryd.func7, Tryd.ntmps7
  go_wp2_with fail
  refine (A.out).mono ?_
  rintro e w2 ⟨v2, rfl, h2, b2⟩
  have T := Lib.hid (told_any v2 L n w2 (HT.out.keep b2) h2 N'.out)
  generalize errV n = E at *
  go_wp2_with fail
  refine (T.out).mono ?_
  rintro e w3 ⟨v3, rfl, h3, b3⟩
  go_wp2_with fail
  go_ret2
  exact ⟨_, rfl, h3, ext_trans b2 b3⟩
set_option maxHeartbeats 16000000 in
set_option maxRecDepth 100000 in
/-- The document's. -/
theorem rborn_any (v : Value) (l : List Mt) (w : World) (h : MtsAt w v l) (hok : ∀ f ∈ l, f.ok) : Calls Tryd.prog 8 #[v] w (ToldP (bornR l).1 (bornR l).2 w) := by
  unfold bornR
  obtain ⟨a, cap, rfl, hlen, hc⟩ := h
  have hlen' : (l.length : Int) ≤ 140737488355328 := by omega
  replace hc := Lib.hid hc
  replace hok := Lib.hid hok
  by_cases h32 : 32 < l.length
  · rw [if_pos h32]
    have h32' : (32 : Int) < (l.length : Int) := by omega
    go_enter Tryd.func8, Tryd.ntmps8
    go_wp2
    go_ret2
    exact ⟨_, rfl, itsAt_nil _, Below.refl _ _⟩
  rw [if_neg h32]
  have h32' : ¬ (32 : Int) < (l.length : Int) := by omega
  obtain ⟨R, hR⟩ : ∃ R, R = bornF l [] := ⟨_, rfl⟩
  rw [← hR]
  replace hR := Lib.hid hR
  go_enter Tryd.func8, Tryd.ntmps8
  go_wp2
  go_loopw [4, 5] (fun c i wr => ∃ (k : Nat) (L : List It), i = .int .i64 k ∧ k ≤ l.length ∧ L.length = k ∧ R = bornF (l.drop k) L ∧ wr.ownsRow w.heap.size 37 8 c L.length (itsAtC L) ∧ Below w.heap.size w wr) (fun _ i _ => l.length - (intOf i).toNat)
  case atStart => exact ⟨0, [], rfl, by omega, rfl, hR.out, World.ownsRow_nil _ _ _ _, Below.refl _ _⟩
  case round =>
    obtain ⟨k, L, rfl, hk, hL, hRk, ho, hb⟩ := hrel
    obtain ⟨va, vc, rfl⟩ := own_slice ho
    replace ho := Lib.hid ho
    replace hb := Lib.hid hb
    replace hRk := Lib.hid hRk
    by_cases hend : k = l.length
    · subst hend
      have hF : R = (L, 1) := by rw [hRk.out, List.drop_length]; rfl
      replace hF := Lib.hid hF
      replace hL := Lib.hid hL
      go_wp2
      go_ret2
      refine ⟨_, by rw [hF.out]; rfl, ?_, hb.out⟩
      rw [hF.out]
      exact ItsAt.of_own ho.out (by have := hL.out; show L.length ≤ _; omega)
    replace hL := Lib.hid hL
    have hkl : k < l.length := by omega
    have klt : (k : Int) < (l.length : Int) := by omega
    obtain ⟨f, hf⟩ : ∃ f, l[k]? = some f := ⟨_, List.getElem?_eq_getElem hkl⟩
    obtain ⟨b, o, rfl, hbl, e0, e1, e2, e3, e4, e5, e6, e7, e8, e9, e10, e11, e12, e13, e14⟩ := mtsAt_at hf hb.out hc.out
    rw [drop_cons hf] at hRk
    have O1 := rof_any f
    have PL := Lib.hid (place_any (.slice va L.length vc) L f.n wr (ItsAt.of_own ho.out (by have := hL.out; omega)))
    have fok := hok.out f (List.mem_of_getElem? hf)
    obtain ⟨n, ha, al, ti, ty, hi, tr, nu, vm, vp, kk, nn, s, vs, vt⟩ := f
    obtain ⟨s1, s2, s3, s4⟩ := Mt.sl _ fok
    simp only at e0 e1 e2 e3 e4 e5 e6 e7 e8 e9 e10 e11 e12 e13 e14 s1 s2 s3 s4 PL
    obtain ⟨p1, p2, p3, rfl⟩ := s1
    obtain ⟨p4, p5, p6, rfl⟩ := s2
    obtain ⟨p7, p8, p9, rfl⟩ := s3
    obtain ⟨p10, p11, p12, rfl⟩ := s4
    replace hf := Lib.hid hf
    replace fok := Lib.hid fok
    replace O1 := Lib.hid O1
    by_cases hn : n = ⟨#[]⟩
    · subst hn
      have hF : R = ([], 7) := by rw [hRk.out]; simp [bornF]
      replace hF := Lib.hid hF
      clear PL
      go_wp2
      go_ret2
      refine ⟨_, by rw [hF.out]; rfl, ?_, hb.out⟩
      rw [hF.out]
      exact itsAt_nil _
    obtain ⟨n1, n2⟩ := ne_nil n hn
    have hRn : R = if (plc L n).isSome then ([], 10) else bornF (l.drop (k + 1)) (L ++ [itm ⟨n, ha, al, ti, ty, hi, tr, nu, .slice p1 p2 p3, .slice p4 p5 p6, kk, nn, s, .slice p7 p8 p9, .slice p10 p11 p12⟩]) := by rw [hRk.out]; simp only [bornF, if_neg hn]
    replace hRn := Lib.hid hRn
    replace hn := Lib.hid hn
    clear hRk
    go_wp2_with fail
    refine (PL.out).mono ?_
    rintro e w2 ⟨rfl, rfl⟩
    clear PL
    cases hp : plc L n with
    | some j =>
      have hq : plcI L n = (j : Int) := by unfold plcI; rw [hp]
      rw [hq]
      have hF : R = ([], 10) := by rw [hRn.out, hp]; rfl
      replace hF := Lib.hid hF
      replace hp := Lib.hid hp
      replace hq := Lib.hid hq
      clear O1 hRn
      go_wp2
      go_ret2
      refine ⟨_, by rw [hF.out]; rfl, ?_, hb.out⟩
      rw [hF.out]
      exact itsAt_nil _
    | none =>
      have hq : plcI L n = -1 := by unfold plcI; rw [hp]
      rw [hq]
      have hF : R = bornF (l.drop (k + 1)) (L ++ [itm ⟨n, ha, al, ti, ty, hi, tr, nu, .slice p1 p2 p3, .slice p4 p5 p6, kk, nn, s, .slice p7 p8 p9, .slice p10 p11 p12⟩]) := by rw [hRn.out, hp]; rfl
      replace hF := Lib.hid hF
      replace hp := Lib.hid hp
      replace hq := Lib.hid hq
      clear hRn
      unfold OfP at O1
      generalize itm ⟨n, ha, al, ti, ty, hi, tr, nu, .slice p1 p2 p3, .slice p4 p5 p6, kk, nn, s, .slice p7 p8 p9, .slice p10 p11 p12⟩ = y at *
      obtain ⟨y0, y1, y2, y3, y4, y5, y6, y7⟩ := y
      unfold It.v at O1
      obtain ⟨i0, z, hi0, hz0, hz1, hz2, hzs⟩ := info37
      replace hi0 := Lib.hid hi0
      replace hz0 := Lib.hid hz0
      replace hz1 := Lib.hid hz1
      replace hz2 := Lib.hid hz2
      replace hzs := Lib.hid hzs
      go_wp2_with fail
      refine (O1.out _).mono ?_
      rintro e w3 ⟨rfl, b3⟩
      have ho3 := Lib.hid (own_keep ho.out b3)
      have hb3 := Lib.hid (hb.out.trans (b3.mono hb.out.size))
      have ho4 := Lib.hid (own_keep ho3.out (ext_alloc w3 (.cells #[.string y0, .bool y1, .int .u64 y2, .int .u32 y3, .bool y4, .int .i64 y5, .int .u64 y6, .string y7] 37)))
      have hb4 := Lib.hid (hb3.out.trans ((ext_alloc w3 (.cells #[.string y0, .bool y1, .int .u64 y2, .int .u32 y3, .bool y4, .int .i64 y5, .int .u64 y6, .string y7] 37)).mono hb3.out.size))
      have hx4 : Hid (ItsAt (w3.alloc (.cells #[.string y0, .bool y1, .int .u64 y2, .int .u32 y3, .bool y4, .int .i64 y5, .int .u64 y6, .string y7] 37)) (.slice (some ⟨w3.heap.size, 0, none⟩) 1 1) [⟨y0, y1, y2, y3, y4, y5, y6, y7⟩]) := Lib.hid (its_lit w3 ⟨y0, y1, y2, y3, y4, y5, y6, y7⟩)
      have hl5 : Hid (L.length + [(⟨y0, y1, y2, y3, y4, y5, y6, y7⟩ : It)].length ≤ 100000000) := Lib.hid (by have := hL.out; show L.length + 1 ≤ _; omega)
      replace h32 := Lib.hid h32
      clear b3 O1 ho hb ho3 hb3
      go_wp2_with (at_builtin; refine wpList_append_its _ rfl (.tmp 29) (.tmp 35) 33 rfl w.heap.size 37 i0 z Tryd.underlying33 hi0.out hz0.out hzs.out hz1.out hz2.out (.slice va L.length vc) L [⟨y0, y1, y2, y3, y4, y5, y6, y7⟩] rfl ho4.out hx4.out hl5.out hb4.out.size ?_; intro v5 w5 o5 g5; have B5 := Lib.hid (own_below1 hb4.out hb4.out.size ho4.out g5); have O5 := Lib.hid o5; clear g5 o5)
      go_roundw
      case rel => exact ⟨k + 1, L ++ [⟨y0, y1, y2, y3, y4, y5, y6, y7⟩], by simp, by omega, by rw [List.length_append, hL.out]; rfl, hF.out, O5.out, B5.out⟩
      case measure => simp [intOf]; omega
end Go.Proofs.YtihblangceblhaaDoor

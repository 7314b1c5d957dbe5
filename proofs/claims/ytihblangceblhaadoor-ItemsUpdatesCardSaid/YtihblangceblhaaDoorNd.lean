/-
  LAYER 31: items told anew, on the document's side.
-/
import Derived.Test.YtihblangceblhaaDoorNc
namespace Go.Proofs.YtihblangceblhaaDoor
set_option linter.unusedVariables false
set_option linter.unusedSimpArgs false
open Go.RowKit
def RupdP (R : List It × Int) (w0 : World) (e : Ending) (w' : World) : Prop := ∃ v, e = .returned (.tuple #[v, .int .i64 R.2]) ∧ ItsAt w' v R.1 ∧ Below w0.heap.size w0 w'
set_option maxHeartbeats 16000000 in
set_option maxRecDepth 100000 in
theorem rupd_any {T : List En} {B x9 : Nat} {v9 : Value} (o : ByteArray) (v : Value) (L : List It) (mv : Value) (l : List Mt) (w0 : World) (hv : ItsAt w0 v L) (hL : L.length ≤ 1000) (hm : MtsAt w0 mv l) (hok : ∀ f ∈ l, f.ok) (hX : Tx w0 B x9 T v9) (hrf : ∀ a, rfV T o a = findV T o a) :
    Calls Tryd.prog 19 #[v, mv, .pointer (some ⟨x9, 0, none⟩), .string o] w0 (RupdP (updF T o l L) w0) := by
  unfold RupdP
  obtain ⟨R, hR⟩ : ∃ R, R = updF T o l L := ⟨_, rfl⟩
  rw [← hR]
  replace hR := Lib.hid hR
  obtain ⟨a, cap, rfl, hlen, hc⟩ := hm
  have hv1 : Hid (ItsAt (w0.alloc (.cells #[] 37)) v L) := Lib.hid (hv.keep (ext_alloc _ _) (Nat.le_refl _))
  obtain ⟨a1, c1, rfl, -, -⟩ := hv
  have hlen' : (l.length : Int) ≤ 140737488355328 := by omega
  have hL0 : Hid (([] : List It).length + L.length ≤ 100000000) := Lib.hid (by simp; omega)
  obtain ⟨i0, z, hi0, hz0, hz1, hz2, hzs⟩ := info37
  replace hi0 := Lib.hid hi0
  replace hz0 := Lib.hid hz0
  replace hz1 := Lib.hid hz1
  replace hz2 := Lib.hid hz2
  replace hzs := Lib.hid hzs
  replace hc := Lib.hid hc
  replace hok := Lib.hid hok
  replace hX := Lib.hid hX
  replace hrf := Lib.hid hrf
  replace hL := Lib.hid hL
  go_enter Tryd.func19, Tryd.ntmps19
  go_wp2_with (at_builtin; refine wpList_append_its _ rfl (.tmp 17) (.tmp 18) 33 rfl w0.heap.size 37 i0 z Tryd.underlying33 hi0.out hz0.out hzs.out hz1.out hz2.out (.slice (some ⟨w0.heap.size, 0, none⟩) 0 0) [] L rfl (World.ownsRow_made w0 #[] 0 (Nat.le_refl _) (Nat.zero_le _) (by simp)) hv1.out hL0.out (by simp) ?_; intro v5 w5 o5 g5; have O5 := Lib.hid o5; have B5 := Lib.hid (((Below.refl _ w0).alloc (Nat.le_refl _) _).grown g5 (by simp) (fun k hk => by simp [Value.ownBlock] at hk; omega)); clear o5 g5; obtain ⟨va, vc, rfl⟩ := own_slice O5.out; rw [List.nil_append] at O5)
  go_loopw [11] (fun i wr => ∃ (k : Nat) (M : List It), i = .int .i64 k ∧ k ≤ l.length ∧ M.length = L.length ∧ R = updF T o (l.drop k) M ∧ wr.ownsRow w0.heap.size 37 8 (.slice va L.length vc) M.length (itsAtC M) ∧ Below w0.heap.size w0 wr) (fun i _ => l.length - (intOf i).toNat)
  case atStart => exact ⟨0, L, rfl, by omega, rfl, hR.out, O5.out, B5.out⟩
  case round =>
    obtain ⟨k, M, rfl, hk, hM, hRk, ho, hb⟩ := hrel
    clear O5 B5
    replace ho := Lib.hid ho
    replace hb := Lib.hid hb
    replace hRk := Lib.hid hRk
    replace hM := Lib.hid hM
    by_cases hend : k = l.length
    · subst hend
      have hF : R = (M, 1) := by rw [hRk.out, List.drop_length]; rfl
      replace hF := Lib.hid hF
      go_wp2
      go_ret2
      refine ⟨_, by rw [hF.out]; rfl, ?_, hb.out⟩
      rw [hF.out]
      have := ItsAt.of_own ho.out (by have := hM.out; have := hL.out; omega)
      exact this
    have hkl : k < l.length := by omega
    have klt : (k : Int) < (l.length : Int) := by omega
    obtain ⟨f, hf⟩ : ∃ f, l[k]? = some f := ⟨_, List.getElem?_eq_getElem hkl⟩
    have fok := hok.out f (List.mem_of_getElem? hf)
    obtain ⟨b, off, rfl, hbl, e0, e1, e2, e3, e4, e5, e6, e7, e8, e9, e10, e11, e12, e13, e14⟩ := mtsAt_at hf hb.out hc.out
    rw [drop_cons hf] at hRk
    have O1 := rof_any f
    have PL := Lib.hid (fun nm => place_any (.slice va M.length vc) M nm wr (ItsAt.of_own (by rw [hM.out]; have := ho.out; rw [hM.out] at this; exact this) (by have := hM.out; have := hL.out; omega)))
    have FI := Lib.hid (rtfind_any (hX.out.keep hb.out) o f.al)
    have hrf' := hrf.out f.al
    have E1 := Lib.hid (fun (nm : ByteArray) (c : Int) => @updF_err T o f (l.drop (k + 1)) M nm c)
    have E2 := Lib.hid (fun (nm : ByteArray) => @updF_none T o f (l.drop (k + 1)) M nm)
    have E3 := Lib.hid (fun (nm : ByteArray) (j : Nat) (x : It) => @updF_some T o f (l.drop (k + 1)) M nm j x)
    have hnu : ∀ x : It, putI x f = ⟨x.a0, x.a1, x.a2, x.a3, (itm f).a4, (itm f).a5_0, (itm f).a5_1, (itm f).a5_2⟩ := fun x => by rw [(itm_parts f).2.2.2.2]; rfl
    replace hnu := Lib.hid hnu
    have hnm : nmF T o f = if f.n ≠ ⟨#[]⟩ then (f.n, 1) else if f.ha = false then (⟨#[]⟩, 7) else if (rfV T o f.al).2 = true then ((rfV T o f.al).1, 1) else (⟨#[]⟩, 6) := by unfold nmF; rw [hrf']
    replace hrf' := Lib.hid hrf'
    obtain ⟨rnm, hrn⟩ : ∃ r, nmF T o f = r := ⟨_, rfl⟩
    rw [hrn] at hnm
    replace hrn := Lib.hid hrn
    unfold OfP at O1
    unfold It.v at O1
    generalize (itm f).a0 = z0 at *
    generalize (itm f).a1 = z1 at *
    generalize (itm f).a2 = z2 at *
    generalize (itm f).a3 = z3 at *
    generalize (itm f).a4 = z4 at *
    generalize (itm f).a5_0 = z5 at *
    generalize (itm f).a5_1 = z6 at *
    generalize (itm f).a5_2 = z7 at *
    obtain ⟨n, ha, al, ti, ty, hi, tr, nu, vm, vp, kk, nn, s, vs, vt⟩ := f
    obtain ⟨s1, s2, s3, s4⟩ := Mt.sl _ fok
    simp only at e0 e1 e2 e3 e4 e5 e6 e7 e8 e9 e10 e11 e12 e13 e14 s1 s2 s3 s4 FI hnm
    obtain ⟨p1, p2, p3, rfl⟩ := s1
    obtain ⟨p4, p5, p6, rfl⟩ := s2
    obtain ⟨p7, p8, p9, rfl⟩ := s3
    obtain ⟨p10, p11, p12, rfl⟩ := s4
    replace hf := Lib.hid hf
    replace fok := Lib.hid fok
    replace O1 := Lib.hid O1
    have PL2 := PL
    rw [hM.out] at PL2
    clear PL
    by_cases hn : n = ⟨#[]⟩
    · subst hn
      cases ha with
      | false =>
        have hrr : rnm = (⟨#[]⟩, 7) := by rw [hnm]; simp
        have hF := Lib.hid (hRk.out.trans (E1.out _ 7 (hrn.out.trans hrr) (by decide)))
        replace hrr := Lib.hid hrr
        replace hnm := Lib.hid hnm
        clear PL2 O1 E1 E2 E3 FI
        go_wp2
        go_ret2
        refine ⟨_, by rw [hF.out]; rfl, ?_, hb.out⟩
        rw [hF.out]
        exact itsAt_nil _
      | true =>
        obtain ⟨rf, hrfe⟩ : ∃ r, rfV T o al = r := ⟨_, rfl⟩
        rw [hrfe] at hnm FI
        obtain ⟨nm, fb⟩ := rf
        simp only at hnm FI
        replace hrfe := Lib.hid hrfe
        cases fb with
        | false =>
          have hrr : rnm = (⟨#[]⟩, 6) := by rw [hnm]; simp
          have hF := Lib.hid (hRk.out.trans (E1.out _ 6 (hrn.out.trans hrr) (by decide)))
          replace hrr := Lib.hid hrr
          replace hnm := Lib.hid hnm
          clear PL2 O1 E1 E2 E3
          go_wp2_with fail
          refine (FI.out).mono ?_
          rintro e w2 ⟨rfl, rfl⟩
          go_wp2_with fail
          go_ret2
          refine ⟨_, by rw [hF.out]; rfl, ?_, hb.out⟩
          rw [hF.out]
          exact itsAt_nil _
        | true =>
          have hrr : rnm = (nm, 1) := by rw [hnm]; simp
          replace hrn := Lib.hid (hrn.out.trans hrr)
          replace hrr := Lib.hid hrr
          replace hnm := Lib.hid hnm
          clear E1
          go_wp2_with fail
          refine (FI.out).mono ?_
          rintro e w2 ⟨rfl, rfl⟩
          clear FI
          have PL := Lib.hid (PL2.out nm)
          clear PL2
          go_wp2_with fail
          refine (PL.out).mono ?_
          rintro e w2 ⟨rfl, rfl⟩
          clear PL
          cases hp : plc M nm with
          | none =>
            have hq : plcI M nm = -1 := by unfold plcI; rw [hp]
            rw [hq]
            have hF := Lib.hid (hRk.out.trans (E2.out _ hrn.out hp))
            replace hp := Lib.hid hp
            replace hq := Lib.hid hq
            clear E2 E3 O1
            go_wp2_with fail
            go_ret2
            refine ⟨_, by rw [hF.out]; rfl, ?_, hb.out⟩
            rw [hF.out]
            exact itsAt_nil _
          | some j =>
            obtain ⟨x, hx, -, -⟩ := plc_spec hp
            have hq : plcI M nm = (j : Int) := by unfold plcI; rw [hp]
            rw [hq]
            have hF := Lib.hid (hRk.out.trans (E3.out _ j x hrn.out hp hx))
            have hjl := plc_lt hp
            have hjL : j < L.length := by have := hM.out; omega
            have jlt : (j : Int) < (L.length : Int) := by omega
            have hLL := hL.out
            obtain ⟨gr, vc', e⟩ := own_slice' ho.out (by omega)
            simp only [Value.slice.injEq] at e
            obtain ⟨rfl, -, -⟩ := e
            have ho' : wr.ownsRow w0.heap.size 37 8 (.slice (some ⟨gr, 0, none⟩) M.length vc) M.length (itsAtC M) := by have := ho.out; rw [hM.out]; rw [hM.out] at this; exact this
            have hgb := ho'.lt gr rfl
            have x4 : (itsAtC M)[j * 8 + 4]? = some (.bool x.a4) := itsAtC_get M j x hx 4 (by decide)
            replace ho' := Lib.hid ho'
            replace hp := Lib.hid hp
            replace hq := Lib.hid hq
            clear E2 E3 hRk ho
            go_wp2_with fail
            refine (O1.out _).mono ?_
            rintro e w3 ⟨rfl, b3⟩
            have ho3 := Lib.hid (own_keep ho'.out b3)
            have hb3 := Lib.hid (hb.out.trans (b3.mono hb.out.size))
            have hg3 : gr < w3.heap.size := Nat.lt_of_lt_of_le hgb.2 b3.size
            clear b3 O1
            have ho4 := ho3.out
            have D4 : w3.cell? ⟨gr, j * 8 + 4, none⟩ = some (.bool x.a4) := (ho4.cellAt (j * 8 + 4) (by omega)).trans x4
            have F4 : w3.frozen? ⟨gr, j * 8 + 4, none⟩ = false := ho4.frozenAt _
            have D5 : w3.cell? ⟨gr, j * 8 + 5, none⟩ = some (.int .i64 x.a5_0) := (ho4.cellAt (j * 8 + 5) (by omega)).trans (itsAtC_get M j x hx 5 (by decide))
            have F5 : w3.frozen? ⟨gr, j * 8 + 5, none⟩ = false := ho4.frozenAt _
            have D6 : w3.cell? ⟨gr, j * 8 + 5 + 1, none⟩ = some (.int .u64 x.a5_1) := (ho4.cellAt (j * 8 + 6) (by omega)).trans (itsAtC_get M j x hx 6 (by decide))
            have F6 : w3.frozen? ⟨gr, j * 8 + 5 + 1, none⟩ = false := ho4.frozenAt _
            have D7 : w3.cell? ⟨gr, j * 8 + 5 + 2, none⟩ = some (.string x.a5_2) := (ho4.cellAt (j * 8 + 7) (by omega)).trans (itsAtC_get M j x hx 7 (by decide))
            have F7 : w3.frozen? ⟨gr, j * 8 + 5 + 2, none⟩ = false := ho4.frozenAt _
            have ho5 := own_put ho4 hx z4 z5 z6 z7
            have ho6 := Lib.hid (own_keep ho5 (ext_alloc _ (.cells #[.string z0, .bool z1, .int .u64 z2, .int .u32 z3, .bool z4, .int .i64 z5, .int .u64 z6, .string z7] 37)))
            have hb5 := below_put hb3.out hgb.1 j z4 z5 z6 z7
            have hb6 := Lib.hid (hb5.alloc hb5.size (.cells #[.string z0, .bool z1, .int .u64 z2, .int .u32 z3, .bool z4, .int .i64 z5, .int .u64 z6, .string z7] 37))
            have hF2 : Hid (R = updF T o (l.drop (k + 1)) (M.set j ⟨x.a0, x.a1, x.a2, x.a3, z4, z5, z6, z7⟩)) := Lib.hid (by rw [← hnu.out x]; exact hF.out)
            clear ho3 hb3 hb ho4 ho5 hb5 hF hnu x4
            replace hx := Lib.hid hx
            go_wp2_with fail
            go_roundw
            case rel => exact ⟨k + 1, M.set j ⟨x.a0, x.a1, x.a2, x.a3, z4, z5, z6, z7⟩, by simp, by omega, by rw [List.length_set]; exact hM.out, hF2.out, by
              have := ho6.out
              rw [List.length_set]
              rw [hM.out] at this ⊢
              exact this, hb6.out⟩
            case measure => simp [intOf]; omega
    · have hrr : rnm = (n, 1) := by rw [hnm]; simp [hn]
      replace hrn := Lib.hid (hrn.out.trans hrr)
      replace hrr := Lib.hid hrr
      replace hnm := Lib.hid hnm
      obtain ⟨n1, n2⟩ := ne_nil n hn
      replace hn := Lib.hid hn
      have PL := Lib.hid (PL2.out n)
      clear E1 FI PL2
      go_wp2_with fail
      refine (PL.out).mono ?_
      rintro e w2 ⟨rfl, rfl⟩
      clear PL
      cases hp : plc M n with
      | none =>
        have hq : plcI M n = -1 := by unfold plcI; rw [hp]
        rw [hq]
        have hF := Lib.hid (hRk.out.trans (E2.out _ hrn.out hp))
        replace hp := Lib.hid hp
        replace hq := Lib.hid hq
        clear E2 E3 O1
        go_wp2_with fail
        go_ret2
        refine ⟨_, by rw [hF.out]; rfl, ?_, hb.out⟩
        rw [hF.out]
        exact itsAt_nil _
      | some j =>
        obtain ⟨x, hx, -, -⟩ := plc_spec hp
        have hq : plcI M n = (j : Int) := by unfold plcI; rw [hp]
        rw [hq]
        have hF := Lib.hid (hRk.out.trans (E3.out _ j x hrn.out hp hx))
        have hjl := plc_lt hp
        have hjL : j < L.length := by have := hM.out; omega
        have jlt : (j : Int) < (L.length : Int) := by omega
        have hLL := hL.out
        obtain ⟨gr, vc', e⟩ := own_slice' ho.out (by omega)
        simp only [Value.slice.injEq] at e
        obtain ⟨rfl, -, -⟩ := e
        have ho' : wr.ownsRow w0.heap.size 37 8 (.slice (some ⟨gr, 0, none⟩) M.length vc) M.length (itsAtC M) := by have := ho.out; rw [hM.out]; rw [hM.out] at this; exact this
        have hgb := ho'.lt gr rfl
        have x4 : (itsAtC M)[j * 8 + 4]? = some (.bool x.a4) := itsAtC_get M j x hx 4 (by decide)
        replace ho' := Lib.hid ho'
        replace hp := Lib.hid hp
        replace hq := Lib.hid hq
        clear E2 E3 hRk ho
        go_wp2_with fail
        refine (O1.out _).mono ?_
        rintro e w3 ⟨rfl, b3⟩
        have ho3 := Lib.hid (own_keep ho'.out b3)
        have hb3 := Lib.hid (hb.out.trans (b3.mono hb.out.size))
        have hg3 : gr < w3.heap.size := Nat.lt_of_lt_of_le hgb.2 b3.size
        clear b3 O1
        have ho4 := ho3.out
        have D4 : w3.cell? ⟨gr, j * 8 + 4, none⟩ = some (.bool x.a4) := (ho4.cellAt (j * 8 + 4) (by omega)).trans x4
        have F4 : w3.frozen? ⟨gr, j * 8 + 4, none⟩ = false := ho4.frozenAt _
        have D5 : w3.cell? ⟨gr, j * 8 + 5, none⟩ = some (.int .i64 x.a5_0) := (ho4.cellAt (j * 8 + 5) (by omega)).trans (itsAtC_get M j x hx 5 (by decide))
        have F5 : w3.frozen? ⟨gr, j * 8 + 5, none⟩ = false := ho4.frozenAt _
        have D6 : w3.cell? ⟨gr, j * 8 + 5 + 1, none⟩ = some (.int .u64 x.a5_1) := (ho4.cellAt (j * 8 + 6) (by omega)).trans (itsAtC_get M j x hx 6 (by decide))
        have F6 : w3.frozen? ⟨gr, j * 8 + 5 + 1, none⟩ = false := ho4.frozenAt _
        have D7 : w3.cell? ⟨gr, j * 8 + 5 + 2, none⟩ = some (.string x.a5_2) := (ho4.cellAt (j * 8 + 7) (by omega)).trans (itsAtC_get M j x hx 7 (by decide))
        have F7 : w3.frozen? ⟨gr, j * 8 + 5 + 2, none⟩ = false := ho4.frozenAt _
        have ho5 := own_put ho4 hx z4 z5 z6 z7
        have ho6 := Lib.hid (own_keep ho5 (ext_alloc _ (.cells #[.string z0, .bool z1, .int .u64 z2, .int .u32 z3, .bool z4, .int .i64 z5, .int .u64 z6, .string z7] 37)))
        have hb5 := below_put hb3.out hgb.1 j z4 z5 z6 z7
        have hb6 := Lib.hid (hb5.alloc hb5.size (.cells #[.string z0, .bool z1, .int .u64 z2, .int .u32 z3, .bool z4, .int .i64 z5, .int .u64 z6, .string z7] 37))
        have hF2 : Hid (R = updF T o (l.drop (k + 1)) (M.set j ⟨x.a0, x.a1, x.a2, x.a3, z4, z5, z6, z7⟩)) := Lib.hid (by rw [← hnu.out x]; exact hF.out)
        clear ho3 hb3 hb ho4 ho5 hb5 hF hnu x4
        replace hx := Lib.hid hx
        go_wp2_with fail
        go_roundw
        case rel => exact ⟨k + 1, M.set j ⟨x.a0, x.a1, x.a2, x.a3, z4, z5, z6, z7⟩, by simp, by omega, by rw [List.length_set]; exact hM.out, hF2.out, by
          have := ho6.out
          rw [List.length_set]
          rw [hM.out] at this ⊢
          exact this, hb6.out⟩
        case measure => simp [intOf]; omega
end Go.Proofs.YtihblangceblhaaDoor

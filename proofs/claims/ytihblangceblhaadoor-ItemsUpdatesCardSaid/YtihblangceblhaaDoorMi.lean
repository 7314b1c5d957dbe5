/-
  LAYER 31: items told anew, on the program's side.
-/
import Derived.Test.YtihblangceblhaaDoorMh
namespace Go.Proofs.YtihblangceblhaaDoor
set_option linter.unusedVariables false
set_option linter.unusedSimpArgs false
open Go.RowKit
def updF (T : List En) (o : ByteArray) : List Mt → List It → List It × Int
  | [], acc => (acc, 1)
  | f :: r, acc => if (nmF T o f).2 ≠ 1 then ([], (nmF T o f).2) else match plc acc (nmF T o f).1 with | none => ([], 7) | some j => updF T o r (acc.set j (putI (acc.getD j it0) f))
theorem updF_err {T : List En} {o : ByteArray} {f : Mt} {r : List Mt} {acc : List It} {nm : ByteArray} {c : Int} (h : nmF T o f = (nm, c)) (hc : c ≠ 1) : updF T o (f :: r) acc = ([], c) := by
  unfold updF; rw [h]; exact if_pos hc
theorem updF_none {T : List En} {o : ByteArray} {f : Mt} {r : List Mt} {acc : List It} {nm : ByteArray} (h : nmF T o f = (nm, 1)) (hp : plc acc nm = none) : updF T o (f :: r) acc = ([], 7) := by
  unfold updF; rw [h]; simp [hp]
theorem updF_some {T : List En} {o : ByteArray} {f : Mt} {r : List Mt} {acc : List It} {nm : ByteArray} {j : Nat} {x : It} (h : nmF T o f = (nm, 1)) (hp : plc acc nm = some j) (hx : acc[j]? = some x) : updF T o (f :: r) acc = updF T o r (acc.set j (putI x f)) := by
  have e : acc.getD j it0 = x := by rw [List.getD_eq_getElem?_getD, hx]; rfl
  rw [updF, h]; simp only [ne_eq, not_true_eq_false, if_false, hp, e]
theorem updF_len (T : List En) (o : ByteArray) : ∀ (l : List Mt) (acc : List It), (updF T o l acc).1.length ≤ acc.length
  | [], acc => Nat.le_refl _
  | f :: r, acc => by
    unfold updF
    split
    · simp
    · split
      · simp
      · refine Nat.le_trans (updF_len T o r _) ?_
        rw [List.length_set]; exact Nat.le_refl _
def UpdP (R : List It × Int) (w0 : World) (e : Ending) (w' : World) : Prop := ∃ v, e = .returned (.tuple #[v, errV R.2]) ∧ ItsAt w' v R.1 ∧ Below w0.heap.size w0 w'
set_option maxHeartbeats 16000000 in
set_option maxRecDepth 100000 in
theorem update_any {T : List En} {g m : Nat} {D : DataW Unit} (o : ByteArray) (v : Value) (L : List It) (mv : Value) (l : List Mt) (w0 w : World) (hm : MtsAt w0 mv l) (hok : ∀ f ∈ l, f.ok) (hT : Tb w0 g m T D) (hL : L.length ≤ 1000)
    (hw : Below w0.heap.size w0 w) (hown : w.ownsRow w0.heap.size 37 8 v L.length (itsAtC L)) : Calls Tryd.prog 30 #[v, mv, .pointer (some ⟨g, 0, none⟩), .string o] w (UpdP (updF T o l L) w0) := by
  unfold UpdP
  obtain ⟨R, hR⟩ : ∃ R, R = updF T o l L := ⟨_, rfl⟩
  rw [← hR]
  replace hR := Lib.hid hR
  obtain ⟨a, cap, rfl, hlen, hc⟩ := hm
  obtain ⟨va, vc, rfl⟩ := own_slice hown
  have hlen' : (l.length : Int) ≤ 140737488355328 := by omega
  replace hc := Lib.hid hc
  replace hok := Lib.hid hok
  replace hT := Lib.hid hT
  replace hown := Lib.hid hown
  replace hw := Lib.hid hw
  replace hL := Lib.hid hL
  go_enter Tryd.func30, Tryd.ntmps30
  go_wp2
  go_loopw [17] (fun i wr => ∃ (k : Nat) (M : List It), i = .int .i64 k ∧ k ≤ l.length ∧ M.length = L.length ∧ R = updF T o (l.drop k) M ∧ wr.ownsRow w0.heap.size 37 8 (.slice va L.length vc) M.length (itsAtC M) ∧ Below w0.heap.size w0 wr) (fun i _ => l.length - (intOf i).toNat)
  case atStart => exact ⟨0, L, rfl, by omega, rfl, hR.out, hown.out, hw.out⟩
  case round =>
    obtain ⟨k, M, rfl, hk, hM, hRk, ho, hb⟩ := hrel
    clear hown hw
    replace ho := Lib.hid ho
    replace hb := Lib.hid hb
    replace hRk := Lib.hid hRk
    replace hM := Lib.hid hM
    by_cases hend : k = l.length
    · subst hend
      have hF : R = (M, 1) := by rw [hRk.out, List.drop_length]; rfl
      replace hF := Lib.hid hF
      go_wp2
      go_ret2
      refine ⟨_, by rw [hF.out]; rfl, ?_, hb.out⟩
      rw [hF.out]
      have := ItsAt.of_own ho.out (by have := hM.out; have := hL.out; omega)
      exact this
    have hkl : k < l.length := by omega
    have klt : (k : Int) < (l.length : Int) := by omega
    obtain ⟨f, hf⟩ : ∃ f, l[k]? = some f := ⟨_, List.getElem?_eq_getElem hkl⟩
    have fok := hok.out f (List.mem_of_getElem? hf)
    obtain ⟨b, off, rfl, hbl, e0, e1, e2, e3, e4, e5, e6, e7, e8, e9, e10, e11, e12, e13, e14⟩ := mtsAt_at hf hb.out hc.out
    rw [drop_cons hf] at hRk
    have NM := fun W (hW : Below w0.heap.size w0 W) => named_any f fok o W (hT.out.keep hW)
    have VA := Lib.hid (fun W => value_any f W)
    have E1 := Lib.hid (fun (nm : ByteArray) (c : Int) => @updF_err T o f (l.drop (k + 1)) M nm c)
    have E2 := Lib.hid (fun (nm : ByteArray) => @updF_none T o f (l.drop (k + 1)) M nm)
    have E3 := Lib.hid (fun (nm : ByteArray) (j : Nat) (x : It) => @updF_some T o f (l.drop (k + 1)) M nm j x)
    have hnu : ∀ x : It, putI x f = ⟨x.a0, x.a1, x.a2, x.a3, f.nu, (itm f).a5_0, (itm f).a5_1, (itm f).a5_2⟩ := fun _ => rfl
    replace hnu := Lib.hid hnu
    unfold ValP valV at VA
    obtain ⟨rnm, hrn⟩ : ∃ r, nmF T o f = r := ⟨_, rfl⟩
    rw [hrn] at NM
    obtain ⟨nm, c⟩ := rnm
    replace hrn := Lib.hid hrn
    replace NM := Lib.hid NM
    generalize (itm f).a5_0 = z0 at *
    generalize (itm f).a5_1 = z1 at *
    generalize (itm f).a5_2 = z2 at *
    obtain ⟨n, ha, al, ti, ty, hi, tr, nu, vm, vp, kk, nn, s, vs, vt⟩ := f
    obtain ⟨s1, s2, s3, s4⟩ := Mt.sl _ fok
    simp only at e0 e1 e2 e3 e4 e5 e6 e7 e8 e9 e10 e11 e12 e13 e14 s1 s2 s3 s4
    obtain ⟨p1, p2, p3, rfl⟩ := s1
    obtain ⟨p4, p5, p6, rfl⟩ := s2
    obtain ⟨p7, p8, p9, rfl⟩ := s3
    obtain ⟨p10, p11, p12, rfl⟩ := s4
    replace hf := Lib.hid hf
    replace fok := Lib.hid fok
    have A1 := Lib.hid (ext_alloc wr (.cells #[.string n, .bool ha, .int .u64 al, .int .u64 ti, .int .u32 ty, .bool hi, .bool tr, .bool nu, .slice p1 p2 p3, .slice p4 p5 p6, .int .i64 kk, .int .u64 nn, .string s, .slice p7 p8 p9, .slice p10 p11 p12] 32))
    have hb1 := Lib.hid (hb.out.trans (A1.out.mono hb.out.size))
    have KM := Lib.hid (Blk.new wr 32 #[.string n, .bool ha, .int .u64 al, .int .u64 ti, .int .u32 ty, .bool hi, .bool tr, .bool nu, .slice p1 p2 p3, .slice p4 p5 p6, .int .i64 kk, .int .u64 nn, .string s, .slice p7 p8 p9, .slice p10 p11 p12])
    have ho1 := Lib.hid (own_keep ho.out A1.out)
    have sz : Hid ((Tryd.prog.info? 32).map (·.size) = some (#[.string n, .bool ha, .int .u64 al, .int .u64 ti, .int .u32 ty, .bool hi, .bool tr, .bool nu, .slice p1 p2 p3, .slice p4 p5 p6, .int .i64 kk, .int .u64 nn, .string s, .slice p7 p8 p9, .slice p10 p11 p12] : Array Value).size) := Lib.hid (by kernel_rfl)
    go_wp2_with (refine wpList_load_row rfl 32 (.tmp 11) rfl wr.heap.size rfl 32 _ (0, 0) _ KM.out Tryd.underlying32 rfl sz.out ?_)
    refine (NM.out _ hb1.out).mono ?_
    rintro e w2 ⟨rfl, b2⟩
    have KM2 := Lib.hid (KM.out.ext b2)
    have ho2 := Lib.hid (own_keep ho1.out b2)
    have hb2 := Lib.hid (hb1.out.trans (b2.mono hb1.out.size))
    clear b2 NM A1 hb1 KM ho1 ho hb
    by_cases hcn : c = 1
    rotate_left
    · have hF := Lib.hid (hRk.out.trans (E1.out nm c hrn.out hcn))
      have hE : errV c = .iface 81 (.agg #[.int .i64 c]) := if_neg hcn
      rw [hE]
      replace hE := Lib.hid hE
      replace hcn := Lib.hid hcn
      clear E1 E2 E3 VA
      go_wp2
      go_ret2
      refine ⟨_, by rw [hF.out]; exact congrArg (fun q => Ending.returned (.tuple #[.slice none 0 0, q])) hE.out.symm, ?_, hb2.out⟩
      rw [hF.out]
      exact itsAt_nil _
    subst hcn
    have hE : errV 1 = .nilIface := rfl
    rw [hE]
    replace hE := Lib.hid hE
    have A2 := Lib.hid (ext_alloc w2 (.cells #[.slice va L.length vc] 33))
    have hlM : M.length = L.length := hM.out
    have hi2 : ItsAt w2 (.slice va M.length vc) M := ItsAt.of_own (by rw [hlM]; have := ho2.out; rw [hlM] at this; exact this) (by have := hL.out; omega)
    have FD := find_any31 va vc w2.heap.size M nm (w2.alloc (.cells #[.slice va M.length vc] 33)) (hi2.keep (ext_alloc _ _) (Nat.le_refl _)) (by rw [World.cell?_alloc_at _ _ _ _ rfl]; rfl)
    rw [hlM] at FD
    have KM3 := Lib.hid (KM2.out.alloc (.cells #[.slice va L.length vc] 33))
    have ho3 := Lib.hid (own_keep ho2.out A2.out)
    have hb3 := Lib.hid (hb2.out.trans (A2.out.mono hb2.out.size))
    replace FD := Lib.hid FD
    replace hlM := Lib.hid hlM
    clear hi2 KM2 ho2 hb2 A2
    go_wp2_with fail
    refine (FD.out).mono ?_
    rintro e w3 ⟨rfl, rfl⟩
    clear FD
    generalize w2.alloc (.cells #[.slice va L.length vc] 33) = w3 at *
    cases hp : plc M nm with
    | none =>
      have hq : ptrOf va M nm = .pointer none := by unfold ptrOf; rw [hp]
      rw [hq]
      have hF := Lib.hid (hRk.out.trans (E2.out nm hrn.out hp))
      replace hp := Lib.hid hp
      replace hq := Lib.hid hq
      clear E1 E2 E3 VA
      go_wp2
      go_ret2
      refine ⟨_, by rw [hF.out]; rfl, ?_, hb3.out⟩
      rw [hF.out]
      exact itsAt_nil _
    | some j =>
      obtain ⟨x, hx, -, -⟩ := plc_spec hp
      have hF := Lib.hid (hRk.out.trans (E3.out nm j x hrn.out hp hx))
      obtain ⟨gr, vc', e⟩ := own_slice' ho3.out (by have := plc_lt hp; omega)
      simp only [Value.slice.injEq] at e
      obtain ⟨rfl, -, -⟩ := e
      have hq : ptrOf (some ⟨gr, 0, none⟩) M nm = .pointer (some ⟨gr, j * 8, none⟩) := by unfold ptrOf; rw [hp]; simp
      rw [hq]
      have hgb : w0.heap.size ≤ gr ∧ gr < w3.heap.size := ho3.out.lt gr rfl
      have hjl := plc_lt hp
      have ho3' : w3.ownsRow w0.heap.size 37 8 (.slice (some ⟨gr, 0, none⟩) M.length vc) M.length (itsAtC M) := by have := ho3.out; rw [hlM.out]; rw [hlM.out] at this; exact this
      replace ho3' := Lib.hid ho3'
      replace hp := Lib.hid hp
      replace hq := Lib.hid hq
      clear E1 E2 E3 ho3 hRk
      go_wp2_with fail
      have KS : Hid (∀ W, Blk W wr.heap.size 32 #[.string n, .bool ha, .int .u64 al, .int .u64 ti, .int .u32 ty, .bool hi, .bool tr, .bool nu, .slice p1 p2 p3, .slice p4 p5 p6, .int .i64 kk, .int .u64 nn, .string s, .slice p7 p8 p9, .slice p10 p11 p12] → W.rangeAt wr.heap.size 0 (#[.string n, .bool ha, .int .u64 al, .int .u64 ti, .int .u32 ty, .bool hi, .bool tr, .bool nu, .slice p1 p2 p3, .slice p4 p5 p6, .int .i64 kk, .int .u64 nn, .string s, .slice p7 p8 p9, .slice p10 p11 p12] : Array Value).toList ∧ W.cell? ⟨wr.heap.size, 7, none⟩ = some (.bool nu)) := Lib.hid fun W hW => by
        refine ⟨fun j u hj => ?_, (hW.cell 7).trans rfl⟩
        have := hW.cell j
        rw [Nat.zero_add, this]
        simpa using hj
      have D0 := Lib.hid (ext_drew w3)
      have hne : wr.heap.size ≠ gr := by
        have := own_far ho3'.out KM3.out (by decide)
        intro e; exact this (by rw [e]; rfl)
      have x4 : (itsAtC M)[j * 8 + 4]? = some (.bool x.a4) := itsAtC_get M j x hx 4 (by decide)
      have szl : Hid ((Tryd.prog.info? 32).map (·.size) = some (#[.string n, .bool ha, .int .u64 al, .int .u64 ti, .int .u32 ty, .bool hi, .bool tr, .bool nu, .slice p1 p2 p3, .slice p4 p5 p6, .int .i64 kk, .int .u64 nn, .string s, .slice p7 p8 p9, .slice p10 p11 p12] : Array Value).toList.length) := Lib.hid (by kernel_rfl)
      have hS0 := KS.out _ (KM3.out.ext D0.out)
      refine wp_region_held_drew (S := fun W => W.rangeAt wr.heap.size 0 (#[.string n, .bool ha, .int .u64 al, .int .u64 ti, .int .u32 ty, .bool hi, .bool tr, .bool nu, .slice p1 p2 p3, .slice p4 p5 p6, .int .i64 kk, .int .u64 nn, .string s, .slice p7 p8 p9, .slice p10 p11 p12] : Array Value).toList ∧ W.cell? ⟨wr.heap.size, 7, none⟩ = some (.bool nu)) (by kernel_rfl) hS0 (fun hHeld => ?_)
      refine wpAnyH_take (i := 0) (oi := _) (v := ?zv0) rfl (by kernel_rfl) (by kernel_rfl) (by kernel_rfl) (fun _ _ _ h => h) (Or.inl ⟨by rfl, ?zy0⟩) (by assumption) ?zr0
      case zy0 => (intro w hSw; have s7 := hSw.2; go_simp <;> with_reducible rfl)
      try simp only [Act.put, List.getElem_toArray, List.getElem_cons_zero, List.getElem_cons_succ, List.setIfInBounds_toArray, List.set_cons_zero, List.set_cons_succ]
      refine wpAnyH_take (i := 1) (oi := _) (v := ?zv1) rfl (by kernel_rfl) (by kernel_rfl) (by kernel_rfl) (fun _ _ _ h => h) (Or.inl ⟨by rfl, ?zy1⟩) (by assumption) ?zr1
      case zy1 => (intro w hSw; have s7 := hSw.2; go_simp <;> with_reducible rfl)
      try simp only [Act.put, List.getElem_toArray, List.getElem_cons_zero, List.getElem_cons_succ, List.setIfInBounds_toArray, List.set_cons_zero, List.set_cons_succ]
      refine wpAnyH_take (i := 2) (oi := _) (v := ?zv2) rfl (by kernel_rfl) (by kernel_rfl) (by kernel_rfl) (fun _ _ _ h => h) (Or.inl ⟨by rfl, ?zy2⟩) (by assumption) ?zr2
      case zy2 => (intro w hSw; have s7 := hSw.2; go_simp <;> with_reducible rfl)
      try simp only [Act.put, List.getElem_toArray, List.getElem_cons_zero, List.getElem_cons_succ, List.setIfInBounds_toArray, List.set_cons_zero, List.set_cons_succ]
      refine wpAnyH_take (i := 3) (oi := _) (v := ?zv3) rfl (by kernel_rfl) (by kernel_rfl) (by kernel_rfl) (fun _ _ _ h => h) (Or.inl ⟨by rfl, ?zy3⟩) (by assumption) ?zr3
      case zy3 => (intro w hSw; have s7 := hSw.2; go_simp <;> with_reducible rfl)
      try simp only [Act.put, List.getElem_toArray, List.getElem_cons_zero, List.getElem_cons_succ, List.setIfInBounds_toArray, List.set_cons_zero, List.set_cons_succ]
      refine wpAnyH_take (i := 4) (oi := _) (v := .agg #[.string n, .bool ha, .int .u64 al, .int .u64 ti, .int .u32 ty, .bool hi, .bool tr, .bool nu, .slice p1 p2 p3, .slice p4 p5 p6, .int .i64 kk, .int .u64 nn, .string s, .slice p7 p8 p9, .slice p10 p11 p12]) rfl (by kernel_rfl) (by kernel_rfl) (by kernel_rfl) (fun _ _ _ h => h) (yieldsIf_load_mid (by rfl) 32 _ rfl wr.heap.size 0 (by rfl) (#[.string n, .bool ha, .int .u64 al, .int .u64 ti, .int .u32 ty, .bool hi, .bool tr, .bool nu, .slice p1 p2 p3, .slice p4 p5 p6, .int .i64 kk, .int .u64 nn, .string s, .slice p7 p8 p9, .slice p10 p11 p12] : Array Value).toList _ (fun w hSw => hSw.1) Tryd.underlying32 rfl szl.out) (by assumption) ?zr4
      try simp only [Act.put, List.getElem_toArray, List.getElem_cons_zero, List.getElem_cons_succ, List.setIfInBounds_toArray, List.set_cons_zero, List.set_cons_succ]
      refine wpAnyH_ready (rs := [5]) (by kernel_rfl) (by simp) ?_
      refine AllReadyH.cons (o := _) rfl (fun K hK => ?_) AllReadyH.nil
      go_simp
      refine (VA.out _).mono ?_
      rintro e W1 ⟨rfl, b1⟩
      go_wp2_with fail
      have B1 := Lib.hid (ext_trans D0.out b1)
      have KM4 := KM3.out.ext B1.out
      have ho4 := own_keep ho3'.out B1.out
      have hb4 := Lib.hid (hb3.out.trans (B1.out.mono hb3.out.size))
      have D4 : W1.cell? ⟨gr, j * 8 + 4, none⟩ = some (.bool x.a4) := (ho4.cellAt (j * 8 + 4) (by omega)).trans x4
      have F4 : W1.frozen? ⟨gr, j * 8 + 4, none⟩ = false := ho4.frozenAt _
      refine hK _ _ (KS.out _ KM4) (fun hHeld1 => ?_)
      clear hK K b1
      try simp only [Act.put, List.getElem_toArray, List.getElem_cons_zero, List.getElem_cons_succ, List.setIfInBounds_toArray, List.set_cons_zero, List.set_cons_succ]
      refine wpAnyH_take (i := 6) (oi := _) (v := ?zv6) rfl (by kernel_rfl) (by kernel_rfl) (by kernel_rfl) (fun _ _ _ h => h) (Or.inl ⟨by rfl, ?zy6⟩) (by assumption) ?zr6
      case zy6 => (intro w hSw; have s7 := hSw.2; go_simp <;> with_reducible rfl)
      try simp only [Act.put, List.getElem_toArray, List.getElem_cons_zero, List.getElem_cons_succ, List.setIfInBounds_toArray, List.set_cons_zero, List.set_cons_succ]
      refine wpAnyH_take (i := 7) (oi := _) (v := ?zv7) rfl (by kernel_rfl) (by kernel_rfl) (by kernel_rfl) (fun _ _ _ h => h) (Or.inl ⟨by rfl, ?zy7⟩) (by assumption) ?zr7
      case zy7 => (intro w hSw; have s7 := hSw.2; go_simp <;> with_reducible rfl)
      try simp only [Act.put, List.getElem_toArray, List.getElem_cons_zero, List.getElem_cons_succ, List.setIfInBounds_toArray, List.set_cons_zero, List.set_cons_succ]
      have ho5 := (ho4.stored (j * 8 + 4) (.bool nu)).1
      have KM5 := KM4.far (p := ⟨gr, j * 8 + 4, none⟩) hne (.bool nu)
      refine wpAnyH_ready (rs := [8]) (by kernel_rfl) (by simp) ?_
      refine AllReadyH.cons (o := _) rfl (fun K hK => ?_) AllReadyH.nil
      go_simp
      refine hK _ _ (KS.out _ KM5) (fun hHeld2 => ?_)
      clear hK K
      try simp only [Act.put, List.getElem_toArray, List.getElem_cons_zero, List.getElem_cons_succ, List.setIfInBounds_toArray, List.set_cons_zero, List.set_cons_succ]
      refine wpAnyH_take (i := 9) (oi := _) (v := ?zv9) rfl (by kernel_rfl) (by kernel_rfl) (by kernel_rfl) (fun _ _ _ h => h) (Or.inl ⟨by rfl, ?zy9⟩) (by assumption) ?zr9
      case zy9 => (intro w hSw; have s7 := hSw.2; go_simp <;> with_reducible rfl)
      try simp only [Act.put, List.getElem_toArray, List.getElem_cons_zero, List.getElem_cons_succ, List.setIfInBounds_toArray, List.set_cons_zero, List.set_cons_succ]
      refine wpAnyH_take (i := 10) (oi := _) (v := ?zv10) rfl (by kernel_rfl) (by kernel_rfl) (by kernel_rfl) (fun _ _ _ h => h) (Or.inl ⟨by rfl, ?zy10⟩) (by assumption) ?zr10
      case zy10 => (intro w hSw; have s7 := hSw.2; go_simp <;> with_reducible rfl)
      try simp only [Act.put, List.getElem_toArray, List.getElem_cons_zero, List.getElem_cons_succ, List.setIfInBounds_toArray, List.set_cons_zero, List.set_cons_succ]
      refine wpAnyH_ready (rs := [11]) (by kernel_rfl) (by simp) ?_
      refine AllReadyH.cons (o := _) rfl (fun K hK => ?_) AllReadyH.nil
      refine wp_store_mid 28 (.tmp 48) (.tmp 44) rfl gr (j * 8 + 5) #[.int .i64 z0, .int .u64 z1, .string z2] rfl rfl ?_ (by kernel_rfl) (by simp [Value.oneCell']) ?_
      · intro i hi
        refine ⟨?_, ho5.frozenAt _⟩
        have hi3 : i < 3 := hi
        rw [ho5.cellAt (j * 8 + 5 + i) (by omega), List.getElem?_eq_getElem (by rw [List.length_set, itsAtC_length]; omega)]
        rfl
      have KM6 := ((KM5.far (p := ⟨gr, j * 8 + 5, none⟩) hne (.int .i64 z0)).far (p := ⟨gr, j * 8 + 5 + 1, none⟩) hne (.int .u64 z1)).far (p := ⟨gr, j * 8 + 5 + 1 + 1, none⟩) hne (.string z2)
      refine hK _ _ (KS.out _ KM6) (fun hHeld3 => ?_)
      clear hK K
      try simp only [Act.put, List.getElem_toArray, List.getElem_cons_zero, List.getElem_cons_succ, List.setIfInBounds_toArray, List.set_cons_zero, List.set_cons_succ]
      refine wpAnyH_done (by kernel_rfl) ?_ _
      have ho6 := Lib.hid (own_put ho4 hx nu z0 z1 z2)
      have hb6 := Lib.hid (below_put hb4.out hgb.1 j nu z0 z1 z2)
      have hF2 : Hid (R = updF T o (l.drop (k + 1)) (M.set j ⟨x.a0, x.a1, x.a2, x.a3, nu, z0, z1, z2⟩)) := Lib.hid (by rw [← hnu.out x]; exact hF.out)
      clear hHeld hHeld1 hHeld2 hHeld3 KM4 KM5 KM6 ho4 ho5 D4 F4 hF hnu KS VA x4 hS0
      go_wp2_with fail
      go_roundw
      case rel => exact ⟨k + 1, M.set j ⟨x.a0, x.a1, x.a2, x.a3, nu, z0, z1, z2⟩, by simp, by omega, by rw [List.length_set]; exact hlM.out, hF2.out, by
        have := ho6.out
        rw [List.length_set]
        rw [hlM.out] at this ⊢
        exact this, hb6.out⟩
      case measure => simp [intOf]; omega
end Go.Proofs.YtihblangceblhaaDoor

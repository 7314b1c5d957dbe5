/-
  LAYER 16: All, the program's.
-/
import Derived.Test.YtmpklaokgogigaaDoorMa
import Derived.Test.YtmpklaokgogigaaDoorRc
import Derived.StillTailTactics
import Derived.BigQuiet
import Derived.Great.BuildSlice
namespace Go.Proofs.YtmpklaokgogigaaDoor.Pac
set_option linter.unusedVariables false
set_option linter.unusedSimpArgs false
open Go.Proofs.YtmpklaokgogigaaDoor
open Go.RowKit
theorem info33 : ∃ i z, Tryd.prog.info? 33 = some i ∧ i.zero = some z ∧ i.size = 24 ∧ i.bytes = 280 ∧ z.cells.size = 24 := by
  have h : (Tryd.prog.info? 33).map (fun i => (i.zero.map fun z => z.cells.size, i.size, i.bytes)) = some (some 24, 24, 280) := by kernel_rfl
  cases hi : Tryd.prog.info? 33 with
  | none => rw [hi] at h; cases h
  | some i =>
    rw [hi] at h
    simp only [Option.map_some, Option.some.injEq, Prod.mk.injEq] at h
    obtain ⟨h1, h2, h3⟩ := h
    cases hz : i.zero with
    | none => rw [hz] at h1; cases h1
    | some z => rw [hz] at h1; exact ⟨i, z, rfl, hz, h2, h3, by simpa using h1⟩
theorem fill33 (P : Pk) (f c : Value) (ie : TypeInfo) (z : Value) (h1 : ie.size = 24) : Instr.fill (fun i => some (i * ie.size, ie.size)) ((Array.range (1 * ie.size)).map (z.cells[· % z.cells.size]!)) [(0, .agg (P.v f c))] = some (P.v f c) := by
  rw [h1]
  kernel_rfl
theorem append_pk {w : World} {ops : Array Oper} {rest : List Oper} {o : Oper} {a : Act} {Q : Exit → Act → World → Prop} (hgd : o.guard = none) (s x : Nat)
    (ho : o.op = .call { callee := .builtin .append, args := #[.tmp s, .tmp x], argTypes := #[42, 42] }) (B : Nat) (v : Value) (L : List Pt) (y : Pt) (g : Nat)
    (hs : a.eval (.tmp s) = v) (hx : a.eval (.tmp x) = .slice (some ⟨g, 0, none⟩) 1 1) (hP : Pks B v L w) (hy : Rest v.ownBlock y w) (hg : Blk w g 33 (y.p.v y.fs y.cs))
    (hl : L.length ≤ 4294967297) (hB : B ≤ w.heap.size) (one : y.fs.oneCell' = true ∧ y.cs.oneCell' = true)
    (h : ∀ v' w', Pks B v' (L ++ [y]) w' → w.grownBy w' v.ownBlock → wpList Tryd.prog ops Q rest (a.put o.dst v') w') : wpList Tryd.prog ops Q (o :: rest) a w := by
  obtain ⟨i0, z0, hi, hz0, hz1, hz2, hzs⟩ := info33
  refine wpList_append_own_at w hgd (.tmp s) (.tmp x) 42 ho B 33 i0 z0 24 280 Tryd.underlying42 hi hz0 hz1 hz2 hzs (by decide) v L.length (L.flatMap Pt.cells) hs hP.o ⟨g, 0, none⟩ 1 1 y.cells hx rfl ?_ ?_ (by unfold maxLen; omega) (by omega) hB ?_
  · intro j u hj
    rw [add_off, Nat.zero_add, hg.cell j]
    simpa [Pt.cells] using hj
  · intro u hu
    have := pk_one y.p y.fs y.cs one.1 one.2
    rw [Array.all_eq_true_iff_forall_mem] at this
    exact this u (by simpa [Pt.cells] using hu)
  · intro v' w' ho' hg' _ hb'
    exact h v' w' (hP.snoc hy ho' hg' hb') hg'
theorem build_pk {w : World} {ops : Array Oper} {rest : List Oper} {o : Oper} {a : Act} {Q : Exit → Act → World → Prop} (hgd : o.guard = none) (x : Nat)
    (ho : o.op = .buildSlice 42 1 #[(0, .tmp x)]) (P : Pk) (fs cs : Value) (hx : a.eval (.tmp x) = .agg (P.v fs cs))
    (h : wpList Tryd.prog ops Q rest (a.put o.dst (.slice (some ⟨w.heap.size, 0, none⟩) 1 1)) (w.alloc (.cells (P.v fs cs) 33))) : wpList Tryd.prog ops Q (o :: rest) a w := by
  obtain ⟨i0, z0, hi, hz0, hz1, hz2, hzs⟩ := info33
  refine wpList_buildSlice hgd 42 33 1 #[(0, .tmp x)] ho (P.v fs cs) i0 z0 Tryd.underlying42 hi hz0 (by rw [hz1]; decide) (by rw [hz1]; decide) ?_ h
  have e : (#[(0, Operand.tmp x)].map fun (i, x) => (i, a.eval x)).toList = [(0, .agg (P.v fs cs))] := by simp [hx]
  rw [e]
  exact fill33 P fs cs i0 z0 hz1
theorem Pks.le {B C : Nat} {v : Value} {L : List Pt} {w : World} (h : Pks C v L w) (hB : B ≤ C) : Pks B v L w := by
  refine ⟨⟨h.o.1, h.o.2.imp id ?_⟩, h.r⟩
  rintro ⟨g, cap, cur, hv, hg, rest⟩
  exact ⟨g, cap, cur, hv, Nat.le_trans hB hg, rest⟩
set_option maxHeartbeats 16000000 in
set_option maxRecDepth 100000 in
theorem all_p (s : ByteArray) (w : World) (ht : Hea.Tab3 w) (hs : s.size ≤ 4294967296) : Calls Tryd.prog 11 #[.string s] w (AllP (allF s (txtL s) (s.size + 1) 0 []) w) := by
  obtain ⟨v, w1, hconv, a1, b1⟩ := bytes_of s w
  have h256 := Lib.hid (txt_lt s)
  have hl := txtL_length s
  generalize txtL s = l at *
  obtain ⟨R, hR⟩ : ∃ R, R = allF s l (s.size + 1) 0 [] := ⟨_, rfl⟩
  rw [← hR]
  have A1 := Lib.hid a1
  have B1 := Lib.hid b1
  have hT1 := Lib.hid (ht.keep b1)
  obtain ⟨av, capv, rfl, -, -⟩ := a1
  have hl' : (l.length : Int) ≤ 4294967296 := by omega
  have hsl := Lib.hid hl
  have hL2 : l.length ≤ 4294967296 := by omega
  have hRn : R = allF s l (l.length + 1) 0 [] := by rw [hl]; exact hR
  replace hR := Lib.hid hRn
  clear hl hs hRn b1 ht
  go_enter Tryd.func11, Tryd.ntmps11
  go_wp2
  go_loopw [5, 7] (fun c i wr => ∃ (k g : Nat) (L : List Pt), i = .int .i64 (k : Int) ∧ k ≤ l.length ∧ l.length < k + g ∧ R = allF s l g k (L.map Pt.p) ∧ L.length ≤ k ∧ Pks w1.heap.size c L wr ∧ Below w1.heap.size w1 wr) (fun _ i _ => l.length - (intOf i).toNat)
  case atStart => exact ⟨0, l.length + 1, [], rfl, by omega, by omega, hR.out, by simp, Pks.nil _ _, Below.refl _ _⟩
  case round =>
    obtain ⟨k, g, L, rfl, hk, hg, hRk, hLk, hP, hB⟩ := hrel
    obtain ⟨g, rfl⟩ : ∃ g', g = g' + 1 := ⟨g - 1, by omega⟩
    have BD := hd_bd l k hk
    have hk' : (k : Int) ≤ l.length := by omega
    have GET := Hea.get_any _ l k wr (hT1.out.keep hB) (A1.out.keep hB (Nat.le_refl _)) h256.out (by omega) hk
    unfold Hea.GPost at GET
    rw [getV_hd] at GET
    unfold Hea.HV at GET
    have E1 := Lib.hid (@allF_short s l g k (L.map Pt.p))
    have E2 := Lib.hid (@allF_bad s l g k (L.map Pt.p))
    have E3 := Lib.hid (fun P m => @allF_err s l g k (L.map Pt.p) P m)
    have E4 := Lib.hid (fun P => @allF_ok s l g k (L.map Pt.p) P)
    generalize hd l k = h at *
    obtain ⟨hk0, hf0, hn0, hto, he⟩ := h
    simp only at *
    obtain ⟨va, vc, hva⟩ := own_slice hP.o
    subst hva
    have HB := Lib.hid hB
    have HP := Lib.hid hP
    have HRk := Lib.hid hRk
    replace GET := Lib.hid GET
    clear hB hP hRk
    go_wp2_with fail
    refine GET.out.mono ?_
    rintro e w2 ⟨rfl, b2⟩
    clear GET
    have TA := Lib.hid ((hT1.out.keep HB.out).keep (ext_trans b2 (ext_alloc w2 (.cells #[.int .i64 (hk0 : Int), .int .i64 (hf0 : Int), .int .i64 (hn0 : Int)] 23))))
    have PA := Lib.hid (HP.out.ext (ext_trans b2 (ext_alloc w2 (.cells #[.int .i64 (hk0 : Int), .int .i64 (hf0 : Int), .int .i64 (hn0 : Int)] 23))))
    have BA := Lib.hid (HB.out.trans ((ext_trans b2 (ext_alloc w2 (.cells #[.int .i64 (hk0 : Int), .int .i64 (hf0 : Int), .int .i64 (hn0 : Int)] 23))).mono HB.out.size))
    have PE := PA
    have BE := Lib.hid (B1.out.trans (BA.out.mono B1.out.size))
    have CA := Lib.hid (Blk.new w2 23 #[.int .i64 (hk0 : Int), .int .i64 (hf0 : Int), .int .i64 (hn0 : Int)])
    have bn : (hn0 : Int) ≤ 4096 := by omega
    have bt : (hto : Int) ≤ l.length := by omega
    have be : (he : Int) ≤ 11 := by omega
    have VL := Lib.hid (fun g hg => (HP.out.ext b2).lt g hg)
    clear b2 HP HB
    by_cases h2 : he = 2
    · subst h2
      have hF := Lib.hid (HRk.out.trans (E1.out (.inl rfl)))
      clear E1 E2 E3 E4 HRk BD
      go_wp2_with fail
      refine bodyPost_ret (v := .tuple #[.slice va L.length vc, .int .i64 (k : Int), .int .i64 0]) (by simp [results, Tryd.results11, go_sem]) rfl ?_
      exact ⟨_, L, by rw [hF.out], PE.out.le B1.out.size, by rw [hF.out], BE.out⟩
    by_cases h0 : he = 0
    rotate_left
    · have hF := Lib.hid (HRk.out.trans (E2.out h0 h2))
      have q2 : ((he : Int) == 2) = false := by rw [beq_eq_false_iff_ne]; omega
      have q0 : ((he : Int) == 0) = false := by rw [beq_eq_false_iff_ne]; omega
      have q1 : ((he : Int) != 0) = true := by simp; omega
      replace h0 := Lib.hid h0
      replace h2 := Lib.hid h2
      clear E1 E2 E3 E4 HRk BD
      go_wp2_with fail
      refine bodyPost_ret (v := .tuple #[.slice va L.length vc, .int .i64 (k : Int), .int .i64 (he : Int)]) (by simp [results, Tryd.results11, go_sem]) rfl ?_
      exact ⟨_, L, by rw [hF.out], PE.out.le B1.out.size, by rw [hF.out], BE.out⟩
    subst h0
    by_cases hx : l.length < hto + hn0
    · have hF := Lib.hid (HRk.out.trans (E1.out (.inr ⟨rfl, hx⟩)))
      have hx' : (l.length : Int) - (hto : Int) < (hn0 : Int) := by omega
      clear E1 E2 E3 E4 HRk BD
      go_wp2_with fail
      refine bodyPost_ret (v := .tuple #[.slice va L.length vc, .int .i64 (k : Int), .int .i64 0]) (by simp [results, Tryd.results11, go_sem]) rfl ?_
      exact ⟨_, L, by rw [hF.out], PE.out.le B1.out.size, by rw [hF.out], BE.out⟩
    have hx' : ¬ (l.length : Int) - (hto : Int) < (hn0 : Int) := by omega
    have hx2 : (hto : Int) + (hn0 : Int) ≤ (l.length : Int) := by omega
    have OFC := Lib.hid (of_F hk0 hf0 hn0 (s.extract hto (hto + hn0)) (by rw [ByteArray.size_extract]; omega)).1
    obtain ⟨⟨P, m⟩, hO⟩ : ∃ r, OfF hk0 hf0 hn0 (s.extract hto (hto + hn0)) = r := ⟨_, rfl⟩
    have E3' := Lib.hid (E3.out P m rfl (by omega) hO)
    have E4' := Lib.hid (E4.out P rfl (by omega))
    have hO' := Lib.hid hO
    rw [hO] at OFC
    simp only at OFC
    clear E1 E2 E3 E4 hO
    have bd2 := BD.2.2.1 rfl
    clear BD
    go_wp2_with fail
    have hs1 : (hto : Int) + (hn0 : Int) ≤ (s.size : Int) := by have := hsl.out; omega
    have hs2 : (s.size : Int) ≤ 4294967296 := by have := hsl.out; omega
    have hsn : hto + hn0 ≤ s.size := by have := hsl.out; omega
    clear PE BE
    have hw0 : IntKind.i64.wrap ((hto : Int) + (hn0 : Int)) = (hto : Int) + (hn0 : Int) := IntWalk.i64_in _ (by omega)
    have hw1 : 0 ≤ (hto : Int) + (hn0 : Int) := by omega
    have hw2 : (hto : Int) ≤ (hto : Int) + (hn0 : Int) := by omega
    have hw3 : ((hto : Int) + (hn0 : Int)).toNat = hto + hn0 := by omega
    have KS : Hid (∀ W, Below (w2.alloc (.cells #[.int .i64 (hk0 : Int), .int .i64 (hf0 : Int), .int .i64 (hn0 : Int)] 23)).heap.size (w2.alloc (.cells #[.int .i64 (hk0 : Int), .int .i64 (hf0 : Int), .int .i64 (hn0 : Int)] 23)) W → W.rangeAt w2.heap.size 0 [.int .i64 (hk0 : Int), .int .i64 (hf0 : Int), .int .i64 (hn0 : Int)] ∧ W.cell? ⟨w2.heap.size, 2, none⟩ = some (.int .i64 (hn0 : Int))) := Lib.hid fun W hW => by
      refine ⟨fun j u hj => ?_, (CA.out.ext hW).cell 2⟩
      have := (CA.out.ext hW).cell j
      rw [Nat.zero_add, this]
      simpa using hj
    have BD0 := Lib.hid (ext_drew (w2.alloc (.cells #[.int .i64 (hk0 : Int), .int .i64 (hf0 : Int), .int .i64 (hn0 : Int)] 23)))
    refine wp_region_held_drew (S := fun W => W.rangeAt w2.heap.size 0 [.int .i64 (hk0 : Int), .int .i64 (hf0 : Int), .int .i64 (hn0 : Int)] ∧ W.cell? ⟨w2.heap.size, 2, none⟩ = some (.int .i64 (hn0 : Int))) (by kernel_rfl) (KS.out _ (ext_drew _)) (fun hHeld => ?_)
    refine wpAnyH_take (i := 0) (oi := _) (v := .agg #[.int .i64 (hk0 : Int), .int .i64 (hf0 : Int), .int .i64 (hn0 : Int)]) rfl (by kernel_rfl) (by kernel_rfl) (by kernel_rfl) (fun _ _ _ h => h) (yieldsIf_load_mid (by rfl) 23 _ rfl w2.heap.size 0 (by rfl) [.int .i64 (hk0 : Int), .int .i64 (hf0 : Int), .int .i64 (hn0 : Int)] _ (fun w hSw => hSw.1) Tryd.underlying23 rfl (by kernel_rfl)) (by assumption) ?zr0
    try simp only [Act.put, List.setIfInBounds_toArray, List.set_cons_zero, List.set_cons_succ]
    refine wpAnyH_take (i := 1) (oi := _) (v := ?zv1) rfl (by kernel_rfl) (by kernel_rfl) (by kernel_rfl) (fun _ _ _ h => h) (Or.inl ⟨by rfl, ?zy1⟩) (by assumption) ?zr1
    case zy1 => (intro w hSw; have c2 := hSw.2; go_simp <;> with_reducible rfl)
    try simp only [Act.put, List.setIfInBounds_toArray, List.set_cons_zero, List.set_cons_succ]
    refine wpAnyH_take (i := 2) (oi := _) (v := ?zv2) rfl (by kernel_rfl) (by kernel_rfl) (by kernel_rfl) (fun _ _ _ h => h) (Or.inl ⟨by rfl, ?zy2⟩) (by assumption) ?zr2
    case zy2 => (intro w hSw; have c2 := hSw.2; go_simp <;> with_reducible rfl)
    try simp only [Act.put, List.setIfInBounds_toArray, List.set_cons_zero, List.set_cons_succ]
    refine wpAnyH_take (i := 3) (oi := _) (v := ?zv3) rfl (by kernel_rfl) (by kernel_rfl) (by kernel_rfl) (fun _ _ _ h => h) (Or.inl ⟨by rfl, ?zy3⟩) (by assumption) ?zr3
    case zy3 => (intro w hSw; have c2 := hSw.2; go_simp <;> with_reducible rfl)
    try simp only [Act.put, List.setIfInBounds_toArray, List.set_cons_zero, List.set_cons_succ]
    refine wpAnyH_take (i := 4) (oi := _) (v := ?zv4) rfl (by kernel_rfl) (by kernel_rfl) (by kernel_rfl) (fun _ _ _ h => h) (Or.inl ⟨by rfl, ?zy4⟩) (by assumption) ?zr4
    case zy4 => (intro w hSw; have c2 := hSw.2; go_simp <;> with_reducible rfl)
    try simp only [Act.put, List.setIfInBounds_toArray, List.set_cons_zero, List.set_cons_succ]
    refine wpAnyH_take (i := 5) (oi := _) (v := ?zv5) rfl (by kernel_rfl) (by kernel_rfl) (by kernel_rfl) (fun _ _ _ h => h) (Or.inl ⟨by rfl, ?zy5⟩) (by assumption) ?zr5
    case zy5 => (intro w hSw; have c2 := hSw.2; go_simp <;> with_reducible rfl)
    try simp only [Act.put, List.setIfInBounds_toArray, List.set_cons_zero, List.set_cons_succ]
    refine wpAnyH_take (i := 6) (oi := _) (v := ?zv6) rfl (by kernel_rfl) (by kernel_rfl) (by kernel_rfl) (fun _ _ _ h => h) (Or.inl ⟨by rfl, ?zy6⟩) (by assumption) ?zr6
    case zy6 => (intro w hSw; have c2 := hSw.2; go_simp <;> with_reducible rfl)
    try simp only [Act.put, List.setIfInBounds_toArray, List.set_cons_zero, List.set_cons_succ]
    refine wpAnyH_take (i := 7) (oi := _) (v := ?zv7) rfl (by kernel_rfl) (by kernel_rfl) (by kernel_rfl) (fun _ _ _ h => h) (Or.inl ⟨by rfl, ?zy7⟩) (by assumption) ?zr7
    case zy7 => (intro w hSw; have c2 := hSw.2; go_simp <;> with_reducible rfl)
    try simp only [Act.put, List.setIfInBounds_toArray, List.set_cons_zero, List.set_cons_succ]
    refine wpAnyH_take (i := 8) (oi := _) (v := ?zv8) rfl (by kernel_rfl) (by kernel_rfl) (by kernel_rfl) (fun _ _ _ h => h) (Or.inl ⟨by rfl, ?zy8⟩) (by assumption) ?zr8
    case zy8 => (intro w hSw; have c2 := hSw.2; go_simp <;> with_reducible rfl)
    try simp only [Act.put, List.setIfInBounds_toArray, List.set_cons_zero, List.set_cons_succ]
    refine wpAnyH_ready (rs := [9, 13]) (by kernel_rfl) (by simp) ?_
    refine AllReadyH.cons (o := _) rfl (fun K hK => ?_) (AllReadyH.cons (o := _) rfl (fun K hK => ?_) AllReadyH.nil)
    · go_simp
      refine (OFC.out _ (TA.out.keep BD0.out)).mono ?_
      rintro e w5 ⟨fs, cs, rfl, hf, hc, b5⟩
      go_wp2_with fail
      have q5 := ext_trans BD0.out b5
      refine hK _ _ (KS.out _ q5) (fun hHeld2 => ?_)
      clear hK K
      try simp only [Act.put, List.setIfInBounds_toArray, List.set_cons_zero, List.set_cons_succ]
      refine wpAnyH_take (i := 10) (oi := _) (v := ?zv10) rfl (by kernel_rfl) (by kernel_rfl) (by kernel_rfl) (fun _ _ _ h => h) (Or.inl ⟨by rfl, ?zy10⟩) (by assumption) ?zr10
      case zy10 => (intro w hSw; have c2 := hSw.2; go_simp <;> with_reducible rfl)
      try simp only [Act.put, List.setIfInBounds_toArray, List.set_cons_zero, List.set_cons_succ]
      refine wpAnyH_take (i := 11) (oi := _) (v := ?zv11) rfl (by kernel_rfl) (by kernel_rfl) (by kernel_rfl) (fun _ _ _ h => h) (Or.inl ⟨by rfl, ?zy11⟩) (by assumption) ?zr11
      case zy11 => (intro w hSw; have c2 := hSw.2; go_simp <;> with_reducible rfl)
      try simp only [Act.put, List.setIfInBounds_toArray, List.set_cons_zero, List.set_cons_succ]
      refine wpAnyH_take (i := 12) (oi := _) (v := ?zv12) rfl (by kernel_rfl) (by kernel_rfl) (by kernel_rfl) (fun _ _ _ h => h) (Or.inl ⟨by rfl, ?zy12⟩) (by assumption) ?zr12
      case zy12 => (intro w hSw; have c2 := hSw.2; go_simp <;> with_reducible rfl)
      try simp only [Act.put, List.setIfInBounds_toArray, List.set_cons_zero, List.set_cons_succ]
      refine wpAnyH_ready (rs := [13]) (by kernel_rfl) (by simp) ?_
      refine AllReadyH.cons (o := _) rfl (fun K hK => ?_) AllReadyH.nil
      go_simp
      have A2 := Lib.hid (heap_alloc_new w5 (.cells #[.int .i64 0, .int .i64 0, .bool false, .string ⟨#[]⟩, .string ⟨#[]⟩, .int .i64 0, .bool false, .int .i64 0, .bool false, .int .i64 0, .string ⟨#[]⟩, .bool false, .string ⟨#[]⟩, .string ⟨#[]⟩, .int .i64 0, .bool false, .bool false, .string ⟨#[]⟩, .bool false, .string ⟨#[]⟩, .bool false, .int .i64 0, .slice none 0 0, .slice none 0 0] 33))
      have A3 := Lib.hid (World.setRow_alloc_new w5 #[.int .i64 0, .int .i64 0, .bool false, .string ⟨#[]⟩, .string ⟨#[]⟩, .int .i64 0, .bool false, .int .i64 0, .bool false, .int .i64 0, .string ⟨#[]⟩, .bool false, .string ⟨#[]⟩, .string ⟨#[]⟩, .int .i64 0, .bool false, .bool false, .string ⟨#[]⟩, .bool false, .string ⟨#[]⟩, .bool false, .int .i64 0, .slice none 0 0, .slice none 0 0] (P.v fs cs) 33)
      have o12 := Lib.hid (And.intro (fis_one hf.1) (ints_one hc.1))
      have q6 := ext_trans q5 (ext_alloc w5 (.cells #[.int .i64 0, .int .i64 0, .bool false, .string ⟨#[]⟩, .string ⟨#[]⟩, .int .i64 0, .bool false, .int .i64 0, .bool false, .int .i64 0, .string ⟨#[]⟩, .bool false, .string ⟨#[]⟩, .string ⟨#[]⟩, .int .i64 0, .bool false, .bool false, .string ⟨#[]⟩, .bool false, .string ⟨#[]⟩, .bool false, .int .i64 0, .slice none 0 0, .slice none 0 0] 33))
      have q7 := ext_trans q5 (ext_alloc w5 (.cells (P.v fs cs) 33))
      refine hK _ _ (KS.out _ q6) (fun hHeld3 => ?_)
      clear hK K
      try simp only [Act.put, List.setIfInBounds_toArray, List.set_cons_zero, List.set_cons_succ]
      refine wpAnyH_ready (rs := [14]) (by kernel_rfl) (by simp) ?_
      refine AllReadyH.cons (o := _) rfl (fun K hK => ?_) AllReadyH.nil
      refine wp_store_row 33 (.tmp 11) (.tmp 54) rfl w5.heap.size (P.v fs cs) rfl rfl 33 #[.int .i64 0, .int .i64 0, .bool false, .string ⟨#[]⟩, .string ⟨#[]⟩, .int .i64 0, .bool false, .int .i64 0, .bool false, .int .i64 0, .string ⟨#[]⟩, .bool false, .string ⟨#[]⟩, .string ⟨#[]⟩, .int .i64 0, .bool false, .bool false, .string ⟨#[]⟩, .bool false, .string ⟨#[]⟩, .bool false, .int .i64 0, .slice none 0 0, .slice none 0 0] A2.out (pk_size _ _ _) rfl (pk_one _ _ _ o12.out.1 o12.out.2) ?_
      rw [A3.out]
      refine hK _ _ (KS.out _ q7) (fun hHeld4 => ?_)
      clear hK K
      try simp only [Act.put, List.setIfInBounds_toArray, List.set_cons_zero, List.set_cons_succ]
      refine wpAnyH_take (i := 15) (oi := _) (v := ?zv15) rfl (by kernel_rfl) (by kernel_rfl) (by kernel_rfl) (fun _ _ _ h => h) (Or.inl ⟨by rfl, ?zy15⟩) (by assumption) ?zr15
      case zy15 => (intro w hSw; have c2 := hSw.2; go_simp <;> with_reducible rfl)
      try simp only [Act.put, List.setIfInBounds_toArray, List.set_cons_zero, List.set_cons_succ]
      refine wpAnyH_done (by kernel_rfl) ?_ _
      clear hHeld hHeld2 hHeld3 hHeld4
      have ba := ext_alloc w5 (.cells (P.v fs cs) 33)
      have NB := Blk.new w5 33 (P.v fs cs)
      have R9 : Rest (Value.slice va L.length vc).ownBlock ⟨P, fs, cs⟩ (w5.alloc (.cells (P.v fs cs) 33)) := Rest.new (B := (w2.alloc (.cells #[.int .i64 (hk0 : Int), .int .i64 (hf0 : Int), .int .i64 (hn0 : Int)] 23)).heap.size) ⟨hf.1.keep ba (Nat.le_refl _), hf.2⟩ ⟨hc.1.keep ba (Nat.le_refl _), hc.2⟩ (fun g hg => PA.out.lt g hg)
      clear A2 A3 hf hc b5 q5 q6 ba
      generalize w5.alloc (.cells (P.v fs cs) 33) = w9 at *
      generalize w5.heap.size = nb at *
      have PB := Lib.hid (PA.out.ext q7)
      have BB := Lib.hid (BA.out.trans (q7.mono BA.out.size))
      have CB := Lib.hid (CA.out.ext q7)
      have NB' := Lib.hid NB
      have RB := Lib.hid R9
      clear KS TA PA BA CA BD0 OFC q7 NB R9
      by_cases hm : m = 0
      rotate_left
      · have hF := Lib.hid (HRk.out.trans (E3'.out hm))
        have hm' : (m != 0) = true := by simpa using hm
        have BE := Lib.hid (B1.out.trans (BB.out.mono B1.out.size))
        replace hm := Lib.hid hm
        clear E3' E4' HRk
        go_wp2_with fail
        refine bodyPost_ret (v := .tuple #[.slice va L.length vc, .int .i64 (k : Int), .int .i64 m]) (by simp [results, Tryd.results11, go_sem]) rfl ?_
        exact ⟨_, L, by rw [hF.out], PB.out.le B1.out.size, by rw [hF.out], BE.out⟩
      · subst hm
        have hR2 : Hid (R = allF s l g (hto + hn0) ((L ++ [(⟨P, fs, cs⟩ : Pt)]).map Pt.p)) := Lib.hid (by rw [List.map_append]; exact HRk.out.trans (E4'.out hO'.out))
        have KA := Lib.hid (ext_alloc w9 (.cells (P.v fs cs) 33))
        have PC := Lib.hid (PB.out.ext KA.out)
        have RC := Lib.hid (RB.out.ext KA.out)
        have CC := Lib.hid (CB.out.ext KA.out)
        have NC := Lib.hid (Blk.new w9 33 (P.v fs cs))
        have hw9 := Lib.hid (Nat.le_trans BB.out.size KA.out.size)
        clear E3' E4' HRk RB hO'
        have hLb : L.length + 1 ≤ 4294967297 := by omega
        go_wp2_with (first
          | (refine wpList_load_row rfl 33 (.tmp 11) rfl nb rfl 33 (P.v fs cs) (0, 0) _ NB'.out Tryd.underlying33 rfl (pk_size _ _ _) ?_)
          | (refine build_pk rfl 62 rfl P fs cs rfl ?_)
          | (at_builtin; refine append_pk rfl 61 63 rfl w1.heap.size (.slice va L.length vc) L ⟨P, fs, cs⟩ w9.heap.size rfl rfl PC.out RC.out NC.out (by omega) hw9.out o12.out ?_; intro v4 w4 p4 g4; have P4 := Lib.hid p4; have kc := (CC.out.grown g4 (fun e => Nat.lt_irrefl _ (VL.out _ e.symm))).cell 2; have B4 := Lib.hid (BB.out.trans ((KA.out.mono BB.out.size).trans ((Below.refl _ _).grown g4 hw9.out (fun k hk => (PC.out.o.lt k hk).1)))); clear p4 g4))
        go_roundw
        case rel => exact ⟨hto + hn0, g, L ++ [⟨P, fs, cs⟩], by simp, by omega, by omega, hR2.out, by simp; omega, P4.out, B4.out⟩
        case measure => simp [intOf]; omega
    · go_simp
      have A2 := Lib.hid (heap_alloc_new (w2.alloc (.cells #[.int .i64 (hk0 : Int), .int .i64 (hf0 : Int), .int .i64 (hn0 : Int)] 23)).drew (.cells #[.int .i64 0, .int .i64 0, .bool false, .string ⟨#[]⟩, .string ⟨#[]⟩, .int .i64 0, .bool false, .int .i64 0, .bool false, .int .i64 0, .string ⟨#[]⟩, .bool false, .string ⟨#[]⟩, .string ⟨#[]⟩, .int .i64 0, .bool false, .bool false, .string ⟨#[]⟩, .bool false, .string ⟨#[]⟩, .bool false, .int .i64 0, .slice none 0 0, .slice none 0 0] 33))
      have q4 := ext_trans BD0.out (ext_alloc (w2.alloc (.cells #[.int .i64 (hk0 : Int), .int .i64 (hf0 : Int), .int .i64 (hn0 : Int)] 23)).drew (.cells #[.int .i64 0, .int .i64 0, .bool false, .string ⟨#[]⟩, .string ⟨#[]⟩, .int .i64 0, .bool false, .int .i64 0, .bool false, .int .i64 0, .string ⟨#[]⟩, .bool false, .string ⟨#[]⟩, .string ⟨#[]⟩, .int .i64 0, .bool false, .bool false, .string ⟨#[]⟩, .bool false, .string ⟨#[]⟩, .bool false, .int .i64 0, .slice none 0 0, .slice none 0 0] 33))
      refine hK _ _ (KS.out _ q4) (fun hHeld2 => ?_)
      clear hK K
      try simp only [Act.put, List.setIfInBounds_toArray, List.set_cons_zero, List.set_cons_succ]
      refine wpAnyH_ready (rs := [9]) (by kernel_rfl) (by simp) ?_
      refine AllReadyH.cons (o := _) rfl (fun K hK => ?_) AllReadyH.nil
      go_simp
      refine (OFC.out _ (TA.out.keep q4)).mono ?_
      rintro e w5 ⟨fs, cs, rfl, hf, hc, b5⟩
      go_wp2_with fail
      have q5 := ext_trans q4 b5
      refine hK _ _ (KS.out _ q5) (fun hHeld3 => ?_)
      clear hK K
      try simp only [Act.put, List.setIfInBounds_toArray, List.set_cons_zero, List.set_cons_succ]
      refine wpAnyH_take (i := 10) (oi := _) (v := ?zv10b) rfl (by kernel_rfl) (by kernel_rfl) (by kernel_rfl) (fun _ _ _ h => h) (Or.inl ⟨by rfl, ?zy10b⟩) (by assumption) ?zr10b
      case zy10b => (intro w hSw; have c2 := hSw.2; go_simp <;> with_reducible rfl)
      try simp only [Act.put, List.setIfInBounds_toArray, List.set_cons_zero, List.set_cons_succ]
      refine wpAnyH_take (i := 11) (oi := _) (v := ?zv11b) rfl (by kernel_rfl) (by kernel_rfl) (by kernel_rfl) (fun _ _ _ h => h) (Or.inl ⟨by rfl, ?zy11b⟩) (by assumption) ?zr11b
      case zy11b => (intro w hSw; have c2 := hSw.2; go_simp <;> with_reducible rfl)
      try simp only [Act.put, List.setIfInBounds_toArray, List.set_cons_zero, List.set_cons_succ]
      refine wpAnyH_take (i := 12) (oi := _) (v := ?zv12b) rfl (by kernel_rfl) (by kernel_rfl) (by kernel_rfl) (fun _ _ _ h => h) (Or.inl ⟨by rfl, ?zy12b⟩) (by assumption) ?zr12b
      case zy12b => (intro w hSw; have c2 := hSw.2; go_simp <;> with_reducible rfl)
      try simp only [Act.put, List.setIfInBounds_toArray, List.set_cons_zero, List.set_cons_succ]
      have o12 := Lib.hid (And.intro (fis_one hf.1) (ints_one hc.1))
      have zz : (w2.alloc (.cells #[.int .i64 (hk0 : Int), .int .i64 (hf0 : Int), .int .i64 (hn0 : Int)] 23)).drew.heap.size = w2.heap.size + 1 := by simp
      have A4 : Hid (w5.heap[w2.heap.size + 1]? = some (.cells #[.int .i64 0, .int .i64 0, .bool false, .string ⟨#[]⟩, .string ⟨#[]⟩, .int .i64 0, .bool false, .int .i64 0, .bool false, .int .i64 0, .string ⟨#[]⟩, .bool false, .string ⟨#[]⟩, .string ⟨#[]⟩, .int .i64 0, .bool false, .bool false, .string ⟨#[]⟩, .bool false, .string ⟨#[]⟩, .bool false, .int .i64 0, .slice none 0 0, .slice none 0 0] 33 (0, 0))) := Lib.hid (zz ▸ ((b5.block _ (by simp)).trans A2.out))
      have NB0 : Blk (w5.setRow (w2.heap.size + 1) (P.v fs cs)) (w2.heap.size + 1) 33 (P.v fs cs) := setRow_heap _ _ _ _ 33 (0, 0) A4.out
      have q7 : Below (w2.alloc (.cells #[.int .i64 (hk0 : Int), .int .i64 (hf0 : Int), .int .i64 (hn0 : Int)] 23)).heap.size (w2.alloc (.cells #[.int .i64 (hk0 : Int), .int .i64 (hf0 : Int), .int .i64 (hn0 : Int)] 23)) (w5.setRow (w2.heap.size + 1) (P.v fs cs)) := below_setRow q5 (by simp) _
      refine wpAnyH_ready (rs := [14]) (by kernel_rfl) (by simp) ?_
      refine AllReadyH.cons (o := _) rfl (fun K hK => ?_) AllReadyH.nil
      refine wp_store_row 33 (.tmp 11) (.tmp 54) rfl (w2.heap.size + 1) (P.v fs cs) rfl rfl 33 #[.int .i64 0, .int .i64 0, .bool false, .string ⟨#[]⟩, .string ⟨#[]⟩, .int .i64 0, .bool false, .int .i64 0, .bool false, .int .i64 0, .string ⟨#[]⟩, .bool false, .string ⟨#[]⟩, .string ⟨#[]⟩, .int .i64 0, .bool false, .bool false, .string ⟨#[]⟩, .bool false, .string ⟨#[]⟩, .bool false, .int .i64 0, .slice none 0 0, .slice none 0 0] A4.out (pk_size _ _ _) rfl (pk_one _ _ _ o12.out.1 o12.out.2) ?_
      refine hK _ _ (KS.out _ q7) (fun hHeld4 => ?_)
      clear hK K
      try simp only [Act.put, List.setIfInBounds_toArray, List.set_cons_zero, List.set_cons_succ]
      refine wpAnyH_take (i := 15) (oi := _) (v := ?zv15b) rfl (by kernel_rfl) (by kernel_rfl) (by kernel_rfl) (fun _ _ _ h => h) (Or.inl ⟨by rfl, ?zy15b⟩) (by assumption) ?zr15b
      case zy15b => (intro w hSw; have c2 := hSw.2; go_simp <;> with_reducible rfl)
      try simp only [Act.put, List.setIfInBounds_toArray, List.set_cons_zero, List.set_cons_succ]
      refine wpAnyH_done (by kernel_rfl) ?_ _
      clear hHeld hHeld2 hHeld3 hHeld4
      have NB := NB0
      have ba := but_setRow (But.refl (w2.heap.size + 1) w5) (P.v fs cs)
      have R9 : Rest (Value.slice va L.length vc).ownBlock ⟨P, fs, cs⟩ (w5.setRow (w2.heap.size + 1) (P.v fs cs)) := Rest.new (B := (w2.alloc (.cells #[.int .i64 (hk0 : Int), .int .i64 (hf0 : Int), .int .i64 (hn0 : Int)] 23)).heap.size) ⟨ba.fis hf.1 hf.2 (by simp), Fresh.le hf.2 (by simp)⟩ ⟨ba.ints hc.1 hc.2 (by simp), Fresh.le hc.2 (by simp)⟩ (fun g hg => PA.out.lt g hg)
      clear A2 A4 hf hc b5 q4 q5 ba NB0
      generalize w5.setRow (w2.heap.size + 1) (P.v fs cs) = w9 at *
      have PB := Lib.hid (PA.out.ext q7)
      have BB := Lib.hid (BA.out.trans (q7.mono BA.out.size))
      have CB := Lib.hid (CA.out.ext q7)
      have NB' := Lib.hid NB
      have RB := Lib.hid R9
      clear KS TA PA BA CA BD0 OFC q7 NB R9
      by_cases hm : m = 0
      rotate_left
      · have hF := Lib.hid (HRk.out.trans (E3'.out hm))
        have hm' : (m != 0) = true := by simpa using hm
        have BE := Lib.hid (B1.out.trans (BB.out.mono B1.out.size))
        replace hm := Lib.hid hm
        clear E3' E4' HRk
        go_wp2_with fail
        refine bodyPost_ret (v := .tuple #[.slice va L.length vc, .int .i64 (k : Int), .int .i64 m]) (by simp [results, Tryd.results11, go_sem]) rfl ?_
        exact ⟨_, L, by rw [hF.out], PB.out.le B1.out.size, by rw [hF.out], BE.out⟩
      · subst hm
        have hR2 : Hid (R = allF s l g (hto + hn0) ((L ++ [(⟨P, fs, cs⟩ : Pt)]).map Pt.p)) := Lib.hid (by rw [List.map_append]; exact HRk.out.trans (E4'.out hO'.out))
        have KA := Lib.hid (ext_alloc w9 (.cells (P.v fs cs) 33))
        have PC := Lib.hid (PB.out.ext KA.out)
        have RC := Lib.hid (RB.out.ext KA.out)
        have CC := Lib.hid (CB.out.ext KA.out)
        have NC := Lib.hid (Blk.new w9 33 (P.v fs cs))
        have hw9 := Lib.hid (Nat.le_trans BB.out.size KA.out.size)
        clear E3' E4' HRk RB hO'
        have hLb : L.length + 1 ≤ 4294967297 := by omega
        go_wp2_with (first
          | (refine wpList_load_row rfl 33 (.tmp 11) rfl (w2.heap.size + 1) rfl 33 (P.v fs cs) (0, 0) _ NB'.out Tryd.underlying33 rfl (pk_size _ _ _) ?_)
          | (refine build_pk rfl 62 rfl P fs cs rfl ?_)
          | (at_builtin; refine append_pk rfl 61 63 rfl w1.heap.size (.slice va L.length vc) L ⟨P, fs, cs⟩ w9.heap.size rfl rfl PC.out RC.out NC.out (by omega) hw9.out o12.out ?_; intro v4 w4 p4 g4; have P4 := Lib.hid p4; have kc := (CC.out.grown g4 (fun e => Nat.lt_irrefl _ (VL.out _ e.symm))).cell 2; have B4 := Lib.hid (BB.out.trans ((KA.out.mono BB.out.size).trans ((Below.refl _ _).grown g4 hw9.out (fun k hk => (PC.out.o.lt k hk).1)))); clear p4 g4))
        go_roundw
        case rel => exact ⟨hto + hn0, g, L ++ [⟨P, fs, cs⟩], by simp, by omega, by omega, hR2.out, by simp; omega, P4.out, B4.out⟩
        case measure => simp [intOf]; omega
end Go.Proofs.YtmpklaokgogigaaDoor.Pac

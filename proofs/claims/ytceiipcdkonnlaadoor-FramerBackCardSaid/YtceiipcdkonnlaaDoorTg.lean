/-
  LAYER 12: the document's Next, where a packet is there.
-/
import Derived.Test.YtceiipcdkonnlaaDoorTf
namespace Go.Proofs.YtceiipcdkonnlaaDoor
open Go.RowKit
set_option linter.unusedVariables false
set_option linter.unusedSimpArgs false
theorem below_grown {a V c : World} {k : Nat} (h : Below a.heap.size a V) (g : V.grownBy c (some k)) (hk : a.heap.size ≤ k) : Below a.heap.size a c :=
  ⟨g.os.trans h.os, g.tape.trans h.tape, g.output.trans h.output, Nat.le_trans h.size g.size, fun i hi => (g.block i (Nat.lt_of_lt_of_le hi h.size) (by simp; omega)).trans (h.block i hi)⟩
section
variable {P : Program} (w : World)
theorem run_append_bytes (base : Nat) (t ty e : TypeId) (i : TypeInfo) (ht : P.underlying t = some (.slice e)) (hi : P.info? e = some i) (hz : i.zero = some (.int .u8 0)) (hsize : i.size = 1) (hby : i.bytes = 1)
    (v x : Value) (xs l : List Nat) (hown : w.ownsRow base e 1 v xs.length (bl xs)) (hx : BytesAt w x l) (hroom : xs.length + l.length ≤ 140737488355328) (hbase : base ≤ w.heap.size) :
    ∃ v' w', (Builtin.append_ #[t, t] ty #[v, x]).run P w = .ok v' w' ∧ w'.ownsRow base e 1 v' (xs ++ l).length (bl (xs ++ l)) ∧ w.grownBy w' v.ownBlock := by
  obtain ⟨ad, cap, rfl, ⟨hc, hcn⟩, hcase⟩ := hx
  cases ad with
  | none =>
    have hl : l = [] := by
      rcases hcase with h0 | ⟨b, o, h0, _⟩
      · exact h0
      · cases h0
    subst hl
    obtain rfl := hcn rfl
    exact ⟨v, w, run_append_owned_none (P := P) (w := w) base t ty e i 1 ht hi v _ _ hown, by simpa using hown, ⟨rfl, rfl, rfl, Nat.le_refl _, fun _ _ _ => rfl⟩⟩
  | some ad =>
    obtain ⟨v', w', h1, h2, h3, -⟩ := run_append_own (P := P) w base t ty e i (.int .u8 0) 1 1 ht hi hz hsize hby rfl (by decide) v xs.length (bl xs) hown ad l.length cap (bl l) (by simp [bl]) (by
      intro j u hj
      rcases hcase with rfl | ⟨b, o, h0, hb, hcell⟩
      · simp [bl] at hj
      · simp only [Option.some.injEq] at h0
        subst h0
        have hlt : j < l.length := by
          have := (List.getElem?_eq_some_iff.1 hj).1
          simpa [bl] using this
        have hadd : (⟨b, o, none⟩ : Addr).add j = ⟨b, o + j, none⟩ := by unfold Addr.add; split <;> simp_all
        rw [hadd, hcell j hlt, bl_get l j u hj]) (bl_one l) (by unfold maxLen; omega) (by omega) hbase
    exact ⟨v', w', h1, by rw [List.length_append, bl_append]; exact h2, h3⟩
theorem step_append_bytes {ops : Array Oper} {o : Oper} {a : Act} {K : Act → World → Prop} {Q : Exit → Act → World → Prop} {E : Prop} (hgd : o.guard = none) (s x : Operand) (t : TypeId)
    (ho : o.op = .call { callee := .builtin .append, args := #[s, x], argTypes := #[t, t] })
    (base : Nat) (e : TypeId) (i : TypeInfo) (ht : P.underlying t = some (.slice e)) (hi : P.info? e = some i) (hz : i.zero = some (.int .u8 0)) (hsize : i.size = 1) (hby : i.bytes = 1)
    (v : Value) (xs l : List Nat) (hs : a.eval s = v) (hown : w.ownsRow base e 1 v xs.length (bl xs)) (hx : BytesAt w (a.eval x) l)
    (hroom : xs.length + l.length ≤ 140737488355328) (hbase : base ≤ w.heap.size)
    (h : ∀ a' c' w', w'.ownsRow base e 1 (.slice a' (xs ++ l).length c') (xs ++ l).length (bl (xs ++ l)) → w.grownBy w' v.ownBlock → K (a.put o.dst (.slice a' (xs ++ l).length c')) w') :
    if Region.wanted o (yielded ops a.tmps) = true then Oper.wp P o a w K Q else E := by
  have hw : Region.wanted o (yielded ops a.tmps) = true := by simp [Region.wanted, hgd]
  rw [if_pos hw]
  obtain ⟨v', w', hr, h2, h3⟩ := run_append_bytes (P := P) w base t o.type e i ht hi hz hsize hby v (a.eval x) xs l hown hx hroom hbase
  obtain ⟨a', c', rfl⟩ := own_slice h2
  unfold Oper.wp execOp
  simp only [ho, resolve, invoke, builtin, Sem.run_bind, Sem.run_pure, Result.andThen_ok, List.map_toArray, List.map_cons, List.map_nil, hs, hr]
  exact h _ _ w' h2 h3
set_option maxRecDepth 100000 in
/-- A part of the bytes, as a slice. -/
theorem slice_mid {v : Value} {l : List Nat} (h : BytesAt w v l) (T N : Nat) (hT : T + N ≤ l.length) :
    ∃ q, (∀ V, (Instr.slice 23 v (some (.int .i64 (T : Int))) (some (.int .i64 ((T : Int) + (N : Int)))) none).run Tryd.prog V = .ok q V) ∧ BytesAt w q ((l.drop T).take N) := by
  obtain ⟨a, cap, rfl, ⟨hc, hcn⟩, hcase⟩ := id h
  have hl : ((l.drop T).take N).length = N := by simp; omega
  refine ⟨sliced a T (T + N) cap 1, fun V => ?_, ?_⟩
  · rw [run_slice_lh V 23 _ _ _ Tryd.underlying23 .i64 .i64 _ _ (by omega) (by omega) (by omega)]
    have h8 : ((T : Int) + (N : Int)).toNat = T + N := by omega
    simp [sizeOf5, Result.andThen, h8]
  · by_cases h0 : N = 0
    · subst h0
      have e : (l.drop T).take 0 = [] := by simp
      rw [e]
      unfold sliced
      refine ⟨if cap = T then a else a.map (·.add (T * 1)), cap - T, by simp, ⟨by simp, fun hn => ?_⟩, .inl rfl⟩
      split at hn
      · have := hcn hn; omega
      · have := hcn (by simpa using hn); omega
    · rcases hcase with rfl | ⟨b, o, rfl, -, -⟩
      · simp at hT; omega
      · have hne : ¬ cap = T := by omega
        have : sliced (some ⟨b, o, none⟩) T (T + N) cap 1 = .slice (some ⟨b, o + T, none⟩) N (cap - T) := by
          simp [sliced, hne, Addr.add]
        rw [this]
        exact h.mid T N hT (cap - T) (by omega)
set_option maxRecDepth 100000 in
theorem slice_from {v : Value} {l : List Nat} (h : BytesAt w v l) (T : Nat) (hT : T ≤ l.length) (TI : Int) (hI : TI = (T : Int)) :
    ∃ q, (∀ V, (Instr.slice 23 v (some (.int .i64 TI)) none none).run Tryd.prog V = .ok q V) ∧ BytesAt w q (l.drop T) := by
  subst hI
  obtain ⟨a, cap, rfl, ⟨hc, hcn⟩, hcase⟩ := id h
  refine ⟨sliced a T l.length cap 1, fun V => ?_, ?_⟩
  · rw [run_slice_l V 23 _ _ _ Tryd.underlying23 .i64 _ (by omega) (by omega)]
    simp [sizeOf5, Result.andThen]
  · by_cases h0 : T = l.length
    · have e : l.drop T = [] := List.drop_of_length_le (by omega)
      rw [e]
      unfold sliced
      refine ⟨if cap = T then a else a.map (·.add (T * 1)), cap - T, by rw [h0]; simp, ⟨by simp, fun hn => ?_⟩, .inl rfl⟩
      split at hn
      · have := hcn hn; omega
      · have := hcn (by simpa using hn); omega
    · rcases hcase with rfl | ⟨b, o, rfl, -, -⟩
      · simp at hT h0; omega
      · have hne : ¬ cap = T := by omega
        have : sliced (some ⟨b, o, none⟩) T l.length cap 1 = .slice (some ⟨b, o + T, none⟩) (l.length - T) (cap - T) := by
          simp [sliced, hne, Addr.add]
        rw [this]
        have := h.mid T (l.length - T) (by omega) (cap - T) (by omega)
        rwa [List.take_of_length_le (by simp)] at this
end
section
variable {w : World} {B f : Nat} {v : Value} {l : List Nat} {n : Int} {a0 : Addr}
theorem wt_own {W : World} {B B' : Nat} (hB : B ≤ B') {a : Option Addr} {n' c : Nat} (m : List Nat) (hn : n' = m.length) (o : W.ownsRow B' 5 1 (.slice a ([] ++ m).length c) ([] ++ m).length (bl ([] ++ m))) : Wt W B (.slice a n' c) m := by
  subst hn
  exact .inl (own_base (by simpa using o) hB)
theorem xtook_end {w3 : World} {d : Int} (h : Fd w B f v l n d) (bx : Below w.heap.size w w3) (n' : Int) (rf : w3.heap[f]? = some (.cells #[v, .int .i64 n, .int .i64 d] 28 (0, 0))) {v' : Value} {l' : List Nat} (wt : Wt w3 B v' l') (ho : ∀ k, v'.ownBlock = some k → w.heap.size < k) (a b c e : Value) :
    Fd ((((((w3.setCell ⟨f, 0, none⟩ v').setCell ⟨f, 1, none⟩ (.int .i64 n')).setCell ⟨w.heap.size, 0, none⟩ a).setCell ⟨w.heap.size, 1, none⟩ b).setCell ⟨w.heap.size, 2, none⟩ c).setCell ⟨w.heap.size, 3, none⟩ e) B f v' l' n' d ∧
      Far (FS f v) w ((((((w3.setCell ⟨f, 0, none⟩ v').setCell ⟨f, 1, none⟩ (.int .i64 n')).setCell ⟨w.heap.size, 0, none⟩ a).setCell ⟨w.heap.size, 1, none⟩ b).setCell ⟨w.heap.size, 2, none⟩ c).setCell ⟨w.heap.size, 3, none⟩ e) ∧ ∀ k, v'.ownBlock = some k → w.heap.size ≤ k := by
  have hlt := h.lt
  have hne : f ≠ w.heap.size := by omega
  have e1 := heap_setCell_same w3 f 0 _ 28 v' rf
  have e2 := heap_setCell_same _ f 1 _ 28 (.int .i64 n') e1
  have F2 : Far (fun k => k = f ∨ k = w.heap.size) w3 ((((((w3.setCell ⟨f, 0, none⟩ v').setCell ⟨f, 1, none⟩ (.int .i64 n')).setCell ⟨w.heap.size, 0, none⟩ a).setCell ⟨w.heap.size, 1, none⟩ b).setCell ⟨w.heap.size, 2, none⟩ c).setCell ⟨w.heap.size, 3, none⟩ e) :=
    (((((((Far.refl _ w3).set ⟨f, 0, none⟩ v' (.inl rfl)).set ⟨f, 1, none⟩ _ (.inl rfl)).set ⟨w.heap.size, 0, none⟩ _ (.inr rfl)).set ⟨w.heap.size, 1, none⟩ _ (.inr rfl)).set ⟨w.heap.size, 2, none⟩ _ (.inr rfl)).set ⟨w.heap.size, 3, none⟩ _ (.inr rfl))
  refine ⟨⟨?_, ?_, h.fB⟩, ?_, fun k hk => Nat.le_of_lt (ho k hk)⟩
  · rw [Below.heap_setCell _ _ _ _ hne, Below.heap_setCell _ _ _ _ hne, Below.heap_setCell _ _ _ _ hne, Below.heap_setCell _ _ _ _ hne]
    exact e2
  · refine wt.fars F2 ?_
    rintro k hk (rfl | rfl)
    · have := ho _ hk; omega
    · have := ho _ hk; omega
  · exact (Far.of_ext bx).trans F2 (fun k hk hS => hS.elim .inl (fun h2 => by omega))
set_option maxHeartbeats 2000000 in
set_option maxRecDepth 100000 in
theorem xn_dead {d : Nat} (h : Fd w B f v l n d) (hd : d ≠ 0) :
    Calls Tryd.prog 12 #[.pointer (some ⟨f, 0, none⟩)] w fun e w' => e = .returned (ansV zR false d) ∧ Below w.heap.size w w' := by
  have c2 := h.c2
  have lt := h.lt
  have e0 : (((d : Nat) : Int) != 0) = true := by simp; omega
  replace h := Lib.hid h
  clear hd
  go_enter Tryd.func12, Tryd.ntmps12
  go_wp2_with fail
  go_region
  all_goals
    go_wp2_with fail
    refine bodyPost_ret (v := ansV zR false d) (by simp [results, Tryd.results12, go_sem, zR, ansV]) rfl ⟨rfl, ?_⟩
    repeat (first | exact ext_alloc _ _ | refine Below.drew ?_ | refine Below.alloc ?_ (by first | omega | (simp; omega) | simp) _ | refine Below.setCell ?_ (by first | omega | (simp; omega) | simp) _)
set_option maxHeartbeats 4000000 in
set_option maxRecDepth 100000 in
theorem xn_take (h : Fd w B f v l n 0) (hbt : ∀ x ∈ l, x < 256) (hl : l.length ≤ 140737488355328) {K F N T : Nat} (hh : hd l = ⟨K, F, N, T, 0⟩) (hs : T + N ≤ l.length) (hB : B ≤ w.heap.size) (hn0 : 0 ≤ n) (hn1 : n ≤ 1000000) :
    Calls Tryd.prog 12 #[.pointer (some ⟨f, 0, none⟩)] w fun e w' => e = .returned (ansV (.agg #[.int .i64 (K : Int), .int .i64 (F : Int), .int .i64 (N : Int), .string (strB ((l.drop T).take N))]) true 0) ∧ ∃ v', Fd w' B f v' (l.drop (T + N)) (n + 1) 0 ∧ Far (FS f v) w w' ∧ ∀ k, v'.ownBlock = some k → w.heap.size ≤ k := by
  have c0 := h.c0
  have c2 := h.c2
  have lt := h.lt
  obtain ⟨va, vc, rfl⟩ := h.wt.len
  have hbd := hd_bd l
  rw [hh] at hbd
  simp only at hbd
  have hN := hbd.1
  have hT := hbd.2.1
  obtain ⟨q, S1, B1⟩ := slice_mid w h.wt.bytes T N hs
  obtain ⟨q2, S2, B2⟩ := slice_from w h.wt.bytes (T + N) hs ((T : Int) + (N : Int)) (by omega)
  have hs1 : ¬ (l.length : Int) - (T : Int) < (N : Int) := by omega
  have hw1 : IntKind.i64.wrap ((l.length : Int) - (T : Int)) = (l.length : Int) - (T : Int) := IntWalk.i64_in _ (by omega)
  have hw : IntKind.i64.wrap ((T : Int) + (N : Int)) = (T : Int) + (N : Int) := IntWalk.i64_in _ (by omega)
  replace B1 := Lib.hid B1
  replace B2 := Lib.hid B2
  have HL := Lib.hid hl
  have GT := rget_any _ l 0 (w.alloc (.cells #[.int .i64 0, .int .i64 0, .int .i64 0, .string ⟨#[]⟩] 35)) (h.wt.bytes.keep (ext_alloc w _) (Nat.le_refl _)) hbt hl (Nat.zero_le _)
  unfold GPost at GT
  rw [getV_hd, hh] at GT
  unfold HV at GT
  simp only at GT
  replace GT := Lib.hid GT
  replace hh := Lib.hid hh
  have H := Lib.hid h
  have HS := Lib.hid hs
  clear h hl hs hbd hbt
  go_enter Tryd.func12, Tryd.ntmps12
  go_wp2_with fail
  refine GT.out.mono ?_
  rintro e w1 ⟨rfl, b1⟩
  have r1 := at_new b1
  have bb := Lib.hid ((ext_alloc w _).trans (b1.mono (by simp)))
  have RF := Lib.hid (H.out.ext bb.out).row
  have k0 : w1.cell? ⟨f, 0, none⟩ = _ := cell_of_row _ _ 0 _ 28 (0, 0) RF.out
  have q0 : w1.cell? ⟨w.heap.size, 0, none⟩ = _ := cell_of_row w1 w.heap.size 0 _ 35 (0, 0) r1
  have q1 : w1.cell? ⟨w.heap.size, 1, none⟩ = _ := cell_of_row w1 w.heap.size 1 _ 35 (0, 0) r1
  have q2 : w1.cell? ⟨w.heap.size, 2, none⟩ = _ := cell_of_row w1 w.heap.size 2 _ 35 (0, 0) r1
  have q3 : w1.cell? ⟨w.heap.size, 3, none⟩ = _ := cell_of_row w1 w.heap.size 3 _ 35 (0, 0) r1
  have z0 : w1.frozen? ⟨w.heap.size, 0, none⟩ = false := frozen_of_row w1 w.heap.size 0 _ 35 r1
  have z1 : w1.frozen? ⟨w.heap.size, 1, none⟩ = false := frozen_of_row w1 w.heap.size 1 _ 35 r1
  have z2 : w1.frozen? ⟨w.heap.size, 2, none⟩ = false := frozen_of_row w1 w.heap.size 2 _ 35 r1
  have z3 : w1.frozen? ⟨w.heap.size, 3, none⟩ = false := frozen_of_row w1 w.heap.size 3 _ 35 r1
  have lt2 : w.heap.size < w1.heap.size := (Array.getElem?_eq_some_iff.1 r1).1
  have lt4 : f < w1.heap.size := by omega
  have ln := Nat.ne_of_lt lt2
  replace r1 := Lib.hid r1
  clear b1 GT c0 c2
  have CV : Hid (∀ V, Below w1.heap.size w1 V → (convert 23 9 q).run Tryd.prog V = .ok (.string (strB ((l.drop T).take N))) V) := Lib.hid fun V hV => ((B1.out.keep bb.out (Nat.le_refl _)).keep hV (Nat.le_refl _)).conv Tryd.underlying23 Tryd.underlying5 Tryd.underlying9
  go_wp2_with fail
  go_quiet (fail)
  go_wp2_with fail
  have KS : Hid (∀ V, Below ((w1.alloc (.cells #[.int .i64 (K : Int), .int .i64 (F : Int), .int .i64 (N : Int)] 33)).drewN nq).heap.size ((w1.alloc (.cells #[.int .i64 (K : Int), .int .i64 (F : Int), .int .i64 (N : Int)] 33)).drewN nq) V → V.cell? ⟨f, 0, none⟩ = some (.slice va l.length vc) ∧ V.cell? ⟨w1.heap.size, 0, none⟩ = some (.int .i64 (K : Int)) ∧ V.cell? ⟨w1.heap.size, 1, none⟩ = some (.int .i64 (F : Int)) ∧ V.cell? ⟨w1.heap.size, 2, none⟩ = some (.int .i64 (N : Int)) ∧ (convert 23 9 q).run Tryd.prog V = .ok (.string (strB ((l.drop T).take N))) V) := Lib.hid fun V hV => by
    have hV0 : Below (w1.alloc (.cells #[.int .i64 (K : Int), .int .i64 (F : Int), .int .i64 (N : Int)] 33)).heap.size (w1.alloc (.cells #[.int .i64 (K : Int), .int .i64 (F : Int), .int .i64 (N : Int)] 33)) V := (ext_drewN _ nq).trans hV
    have hV1 : Below w1.heap.size w1 V := (ext_alloc w1 _).trans (hV0.mono (by simp))
    have r := at_new hV0
    exact ⟨(hV1.cell (p := ⟨f, 0, none⟩) lt4).trans k0, cell_of_row _ _ 0 _ 33 (0, 0) r, cell_of_row _ _ 1 _ 33 (0, 0) r, cell_of_row _ _ 2 _ 33 (0, 0) r, CV.out V hV1⟩
  generalize hW : (w1.alloc _).drewN nq = W at KS ⊢
  replace hW := Lib.hid hW
  clear q0 q1 q2 q3 z0 z1 z2 z3
  go_region_held3 (fun V => V.cell? ⟨f, 0, none⟩ = some (.slice va l.length vc) ∧ V.cell? ⟨w1.heap.size, 0, none⟩ = some (.int .i64 (K : Int)) ∧ V.cell? ⟨w1.heap.size, 1, none⟩ = some (.int .i64 (F : Int)) ∧ V.cell? ⟨w1.heap.size, 2, none⟩ = some (.int .i64 (N : Int)) ∧ (convert 23 9 q).run Tryd.prog V = .ok (.string (strB ((l.drop T).take N))) V)
    (exact KS.out _ (by repeat (first | exact Below.refl _ _ | exact ext_drew _ | assumption | refine Below.drew ?_ | refine Below.alloc ?_ (by simp <;> omega) _ | refine Below.setCell ?_ (by simp <;> omega) _)))
    (fail)
  go_wp2_with fail
  have e8 : W.heap.size = w1.heap.size + 1 := by rw [← hW.out]; simp
  have BW : Below w1.heap.size w1 (W.alloc (.cells #[.int .i64 (K : Int), .int .i64 (F : Int), .int .i64 (N : Int), .string (strB ((l.drop T).take N))] 35)).drew := by rw [← hW.out]; exact ((below_drewN (ext_alloc w1 _) nq).alloc (by simp) _).drew
  have r8 : (W.alloc (.cells #[.int .i64 (K : Int), .int .i64 (F : Int), .int .i64 (N : Int), .string (strB ((l.drop T).take N))] 35)).drew.heap[W.heap.size]? = some (.cells #[.int .i64 (K : Int), .int .i64 (F : Int), .int .i64 (N : Int), .string (strB ((l.drop T).take N))] 35 (0, 0)) := heap_alloc_new W _
  have z8 : W.heap.size < (W.alloc (.cells #[.int .i64 (K : Int), .int .i64 (F : Int), .int .i64 (N : Int), .string (strB ((l.drop T).take N))] 35)).drew.heap.size := by simp
  have KT : (W.alloc (.cells #[.int .i64 (K : Int), .int .i64 (F : Int), .int .i64 (N : Int), .string (strB ((l.drop T).take N))] 35)).drew.cell? ⟨w1.heap.size, 2, none⟩ = some (.int .i64 (N : Int)) := (KS.out _ ((ext_alloc W _).drew)).2.2.2.1
  generalize (W.alloc _).drew = W2 at BW r8 z8 KT ⊢
  rw [e8] at r8 z8
  obtain ⟨i0, hi, hz0, hz1, hz2⟩ := info_parts info5x
  have c0 : W2.cell? ⟨f, 0, none⟩ = _ := cell_of_row _ _ 0 _ 28 (0, 0) ((BW.block f lt4).trans RF.out)
  have ltf : f < W2.heap.size := by have := BW.size; omega
  have lt1 : w1.heap.size < W2.heap.size := by omega
  have KB : Hid (∀ V, Below (W2.alloc (.cells #[] 5)).heap.size (W2.alloc (.cells #[] 5)) V → V.ownsRow W2.heap.size 5 1 (.slice (some ⟨W2.heap.size, 0, none⟩) 0 0) 0 (bl []) ∧ BytesAt V q2 (l.drop (T + N)) ∧ Below W2.heap.size W2 V) := Lib.hid fun V hV => by
    have hb : Below w1.heap.size w1 V := (BW.trans ((ext_alloc W2 _).mono BW.size)).trans (hV.mono (by have := BW.size; simp; omega))
    have := World.ownsRow_lit (base := W2.heap.size) (e := 5) (size := 1) W2 #[] 0 (by simp) (by unfold maxLen; omega) rfl
    exact ⟨own_keep (by simpa [bl] using this) hV, (B2.out.keep bb.out (Nat.le_refl _)).keep hb (Nat.le_refl _), (ext_alloc W2 _).trans (hV.mono (by simp))⟩
  have HD : Hid ((l.drop (T + N)).length ≤ 140737488355328) := Lib.hid (by rw [List.length_drop]; have := HL.out; omega)
  have RF2 := Lib.hid ((BW.block f lt4).trans RF.out)
  have R2 := Lib.hid ((BW.block w.heap.size lt2).trans r1.out)
  have ltr : w.heap.size < W2.heap.size := by omega
  have y0 : W2.frozen? ⟨f, 0, none⟩ = false := frozen_of_row _ _ 0 _ 28 RF2.out
  have ln0 : -9223372036854775808 ≤ n + 1 := by omega
  have ln1 : n + 1 ≤ 9223372036854775807 := by omega
  have ea : ¬ f = w1.heap.size + 1 := by omega
  have eb : ¬ f = w.heap.size := by omega
  have ec : ¬ w.heap.size = w1.heap.size + 1 := by omega
  replace BW := Lib.hid BW
  replace r8 := Lib.hid r8
  clear KS CV k0
  go_region_law (go_must (refine step_append_bytes _ rfl (.tmp 72) (.tmp 81) 23 rfl W2.heap.size 5 i0 Tryd.underlying23 hi hz0 hz1 hz2 (.slice (some ⟨W2.heap.size, 0, none⟩) 0 0) [] (l.drop (T + N)) rfl (KB.out _ (by first | exact Below.refl _ _ | exact ext_drew _)).1 (KB.out _ (by first | exact Below.refl _ _ | exact ext_drew _)).2.1 (by simpa using HD.out) (by simp) ?_); intro a3 c3 w3 o3 g3; have b3 := below_grown (KB.out _ (by first | exact Below.refl _ _ | exact ext_drew _)).2.2 g3 (Nat.le_refl _); have rf3 := (b3.block f ltf).trans RF2.out; have rr3 := (b3.block w.heap.size ltr).trans R2.out; have rt3 := (b3.block (w1.heap.size + 1) z8).trans r8.out; have l0 : w3.cell? ⟨f, 0, none⟩ = _ := cell_of_row _ _ 0 _ 28 (0, 0) rf3; have l1 : w3.cell? ⟨f, 1, none⟩ = _ := cell_of_row _ _ 1 _ 28 (0, 0) rf3; have m0 : w3.frozen? ⟨f, 0, none⟩ = false := frozen_of_row _ _ 0 _ 28 rf3; have m1 : w3.frozen? ⟨f, 1, none⟩ = false := frozen_of_row _ _ 1 _ 28 rf3; have p0 : w3.cell? ⟨w1.heap.size + 1, 0, none⟩ = _ := cell_of_row _ _ 0 _ 35 (0, 0) rt3; have p1 : w3.cell? ⟨w1.heap.size + 1, 1, none⟩ = _ := cell_of_row _ _ 1 _ 35 (0, 0) rt3; have p2 : w3.cell? ⟨w1.heap.size + 1, 2, none⟩ = _ := cell_of_row _ _ 2 _ 35 (0, 0) rt3; have p3 : w3.cell? ⟨w1.heap.size + 1, 3, none⟩ = _ := cell_of_row _ _ 3 _ 35 (0, 0) rt3; have q0 : w3.cell? ⟨w.heap.size, 0, none⟩ = _ := cell_of_row _ _ 0 _ 35 (0, 0) rr3; have q1 : w3.cell? ⟨w.heap.size, 1, none⟩ = _ := cell_of_row _ _ 1 _ 35 (0, 0) rr3; have q2' : w3.cell? ⟨w.heap.size, 2, none⟩ = _ := cell_of_row _ _ 2 _ 35 (0, 0) rr3; have q3 : w3.cell? ⟨w.heap.size, 3, none⟩ = _ := cell_of_row _ _ 3 _ 35 (0, 0) rr3; have z0 : w3.frozen? ⟨w.heap.size, 0, none⟩ = false := frozen_of_row _ _ 0 _ 35 rr3; have z1 : w3.frozen? ⟨w.heap.size, 1, none⟩ = false := frozen_of_row _ _ 1 _ 35 rr3; have z2 : w3.frozen? ⟨w.heap.size, 2, none⟩ = false := frozen_of_row _ _ 2 _ 35 rr3; have z3 : w3.frozen? ⟨w.heap.size, 3, none⟩ = false := frozen_of_row _ _ 3 _ 35 rr3; have O3 := Lib.hid o3; have B3 := Lib.hid b3; have RF3 := Lib.hid rf3; clear o3 g3 b3 rf3 rr3 rt3)
  all_goals
    go_wp2_with fail
    refine bodyPost_ret (v := ansV (.agg #[.int .i64 (K : Int), .int .i64 (F : Int), .int .i64 (N : Int), .string (strB ((l.drop T).take N))]) true 0) (by simp [results, Tryd.results12, go_sem, ansV, q0, q1, q2', q3, eb, ec]) rfl ⟨rfl, ?_⟩
    exact ⟨_, xtook_end H.out (bb.out.trans ((BW.out.trans (B3.out.mono BW.out.size)).mono (Nat.le_of_lt lt2))) (n + 1) RF3.out (wt_own (show B ≤ W2.heap.size by omega) (l.drop (T + N)) (by simp) O3.out) (by intro k hk; have := (O3.out.lt k (by simpa using hk)).1; omega) _ _ _ _⟩
end
end Go.Proofs.YtceiipcdkonnlaaDoor

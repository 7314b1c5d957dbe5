/-
  LAYER 12: all packets that are taken.
-/
import Derived.Test.YtceiipcdkonnlaaDoorTl
import Derived.Test.YtceiipcdkonnlaaDoorRs
import Derived.Test.YtceiipcdkonnlaaDoorTk
namespace Go.Proofs.YtceiipcdkonnlaaDoor
open Go.RowKit
set_option linter.unusedVariables false
set_option linter.unusedSimpArgs false
def rawW (l : List Nat) : Rw := ⟨(hd l).k, (hd l).f, (hd l).n, strB ((l.drop (hd l).to).take (hd l).n)⟩
theorem next_ok (s : St) (h : s.next.2.2.1 = true) : s.next.2.1 = rawV s.l ∧ s.next.2.2.2 = 0 := by
  obtain ⟨l, n, d⟩ := s
  unfold St.next at h ⊢
  simp only at h ⊢
  split
  · rename_i hd; rw [if_pos hd] at h; cases h
  · rename_i hd
    rw [if_neg hd] at h
    split
    · rename_i h2; rw [if_pos h2] at h; cases h
    · rename_i h2
      rw [if_neg h2] at h
      split
      · rename_i h3; rw [if_pos h3] at h; cases h
      · rename_i h3
        rw [if_neg h3] at h
        split
        · rename_i h4; rw [if_pos h4] at h; cases h
        · exact ⟨rfl, rfl⟩
/-- All packets that are taken, at most so many; what is left; the error. -/
def allS : Nat → St → List Rw × St × Nat
  | 0, s => ([], s, 0)
  | m + 1, s => if s.next.2.2.1 then (rawW s.l :: (allS m s.next.1).1, (allS m s.next.1).2) else ([], s.next.1, s.next.2.2.2)
theorem allS_len : ∀ (m : Nat) (s : St), (allS m s).1.length ≤ m
  | 0, s => by simp [allS]
  | m + 1, s => by
    unfold allS
    split
    · have := allS_len m s.next.1
      simp only [List.length_cons]; omega
    · simp
theorem allS_no {m : Nat} {s : St} (h : s.next.2.2.1 = false) : allS (m + 1) s = ([], s.next.1, s.next.2.2.2) := by
  conv => lhs; unfold allS
  rw [h]; simp
theorem allS_ok {m : Nat} {s : St} (h : s.next.2.2.1 = true) : allS (m + 1) s = (rawW s.l :: (allS m s.next.1).1, (allS m s.next.1).2) := by
  conv => lhs; unfold allS
  rw [h]; simp
theorem info35 : (Tryd.prog.info? 35).map (fun i => (i.zero, i.size, i.bytes)) = some (some (.agg #[.int .i64 0, .int .i64 0, .int .i64 0, .string ⟨#[]⟩]), 4, 40) := by kernel_rfl
section
variable {w w' : World} {B f : Nat} {v vl : Value} {l : List Nat} {n : Int} {flt : Value} {a0 : Addr}
/-- A row of packets is apart from a framer. -/
theorem Fm.apart {Bx m : Nat} {xs : List Value} (h : Fm w B f v l n flt) (hr : w.ownsRow Bx 35 4 vl m xs) {k : Nat} (hk : vl.ownBlock = some k) : ¬ FS f v k := by
  have hc : ∃ cur, w.heap[k]? = some (.cells cur 35 (0, 0)) := by
    rcases hr.2 with ⟨rfl, -⟩ | ⟨g, cap, cur, rfl, -, hcur, -⟩
    · cases hk
    · have : g = k := by simpa [Value.ownBlock] using hk
      exact ⟨cur, this ▸ hcur⟩
  obtain ⟨cur, hc⟩ := hc
  rintro (e | e)
  · subst e
    have := h.row.symm.trans hc
    simp at this
  · exact h.wt.ne hc (by decide) e
/-- What 'all' leaves. -/
def AllP (w : World) (B f : Nat) (v : Value) (s : St) (m : Nat) (e : Ending) (w' : World) : Prop :=
  ∃ v' vl, e = .returned (.tuple #[vl, .int .i64 ((allS m s).2.2 : Int)]) ∧ Fm w' B f v' (allS m s).2.1.l (allS m s).2.1.n (fltV (allS m s).2.1.d) ∧ w'.ownsRow w.heap.size 35 4 vl (allS m s).1.length (rwsAtC (allS m s).1) ∧ Far (FS f v) w w' ∧ (∀ k, v'.ownBlock = some k → v.ownBlock = some k)
/-- What a round of it has. -/
def AllR (w wr : World) (B f : Nat) (v : Value) (s0 : St) (m i : Nat) (vl : Value) : Prop :=
  ∃ v' s P, Fm wr B f v' s.l s.n (fltV s.d) ∧ wr.ownsRow w.heap.size 35 4 vl P.length (rwsAtC P) ∧ Far (FS f v) w wr ∧ (∀ k, v'.ownBlock = some k → v.ownBlock = some k) ∧ (s.d ≠ 0 → s.l = []) ∧
    s.l.length ≤ s0.l.length ∧ 0 ≤ s.n ∧ s.n ≤ s0.n + i ∧ P.length = i ∧ allS m s0 = (P ++ (allS (m - i) s).1, (allS (m - i) s).2)
set_option maxHeartbeats 8000000 in
set_option maxRecDepth 100000 in
theorem all_any {s : St} {m : Nat} (h : Fm w B f v s.l s.n (fltV s.d)) (g : Gl a0 w) (hl : s.l.length ≤ 140737488355328) (hn0 : 0 ≤ s.n) (hn1 : s.n + m ≤ 1000000) (hd0 : s.d ≠ 0 → s.l = []) (hm : m ≤ 2000) :
    Calls Tryd.prog 17 #[.pointer (some ⟨f, 0, none⟩), .int .i64 (m : Int)] w (AllP w B f v s m) := by
  obtain ⟨i0, hi, hz0, hz1, hz2⟩ := info_parts info35
  have G := Lib.hid g
  have H := Lib.hid h
  have HL := Lib.hid hl
  have HN := Lib.hid (show 0 ≤ s.n ∧ s.n + m ≤ 1000000 from ⟨hn0, hn1⟩)
  have HD := Lib.hid hd0
  have hm' : (m : Int) ≤ 2000 := by omega
  clear g h hl hn0 hn1 hd0
  go_enter Tryd.func17, Tryd.ntmps17
  go_wp2_with fail
  go_loopw [6, 7] (fun ov iv wr => ∃ i : Nat, iv = .int .i64 (i : Int) ∧ i ≤ m ∧ AllR w wr B f v s m i ov) (fun _ iv _ => m - (intOf iv).toNat)
  case atStart => exact ⟨0, rfl, by omega, v, s, [], H.out, World.ownsRow_nil _ _ _ _, Far.refl _ _, fun k hk => hk, HD.out, Nat.le_refl _, HN.out.1, by omega, rfl, by simp⟩
  case round =>
    obtain ⟨i, rfl, hi2, HR⟩ := hrel
    obtain ⟨v1, t, P, hf, hr, hF, ho, hdl, hln, hn0, hn1, hP, hA⟩ := HR
    obtain ⟨la, lc, rfl⟩ := own_slice hr
    by_cases hlt : i < m
    · have hlt' : (i : Int) < (m : Int) := by omega
      obtain ⟨j, hj⟩ : ∃ j, m - i = j + 1 := ⟨m - i - 1, by omega⟩
      have f3 := (G.out.ge H.out)
      have hgl : Gl a0 wr := G.out.far hF (fun k hk => Nat.le_trans f3 (H.out.lo hk))
      have K := Lib.hid (f_next hf hgl (by have := HL.out; omega) hn0 (by have := HN.out; omega) hdl)
      have HNX := Lib.hid (next_n t)
      have HNL := Lib.hid (next_len t)
      have HDL := Lib.hid (next_dl t hdl)
      have HOK := Lib.hid (next_ok t)
      have HF := Lib.hid hf
      have HR := Lib.hid hr
      have HFA := Lib.hid hF
      have HO := Lib.hid ho
      have HNN := Lib.hid (show t.l.length ≤ s.l.length ∧ 0 ≤ t.n ∧ t.n ≤ s.n + i from ⟨hln, hn0, hn1⟩)
      have HP := Lib.hid hP
      have HA : Hid (allS m s = (P ++ (allS (j + 1) t).1, (allS (j + 1) t).2)) := Lib.hid (by rw [← hj]; exact hA)
      replace hj := Lib.hid hj
      replace f3 := Lib.hid f3
      clear hf hr hF ho hdl hln hn0 hn1 hP hA hgl
      cases hok : t.next.2.2.1
      · obtain ⟨A, B', C, X, hAg⟩ := next_agg t
        rw [hok, hAg] at K
        unfold ansV at K
        have HA2 : Hid (allS m s = (P, t.next.1, t.next.2.2.2)) := Lib.hid (by rw [HA.out, allS_no hok]; simp)
        replace hok := Lib.hid hok
        replace hAg := Lib.hid hAg
        go_wp2_with fail
        refine K.out.mono ?_
        rintro e w4 ⟨v4, rfl, h4, F4, o4⟩
        have R4 := Lib.hid (own_fars HR.out F4 (fun k hk => HF.out.apart HR.out hk))
        have E4 := ext_alloc w4 (.cells #[.int .i64 A, .int .i64 B', .int .i64 C, .string X] 35)
        have END : Hid (AllP w B f v s m (.returned (.tuple #[.slice la P.length lc, .int .i64 (t.next.2.2.2 : Int)])) (w4.alloc (.cells #[.int .i64 A, .int .i64 B', .int .i64 C, .string X] 35))) := Lib.hid ⟨v4, _, by rw [HA2.out], by rw [HA2.out]; exact h4.ext E4, by rw [HA2.out]; exact own_keep R4.out E4, (HFA.out.trans F4 (fun k hk hs => hs.imp _root_.id (fun hv => HO.out k hv))).alloc _, fun k hk => HO.out k (o4 k hk)⟩
        clear h4 F4 o4 E4 K
        go_wp2_with fail
        go_ret2
        exact END.out
      · obtain ⟨hv, he⟩ := HOK.out hok
        rw [hok, hv, he] at K
        unfold ansV rawV at K
        have HA2 : Hid (allS m s = ((P ++ [rawW t.l]) ++ (allS j t.next.1).1, (allS j t.next.1).2)) := Lib.hid (by rw [HA.out, allS_ok hok]; simp)
        replace hok := Lib.hid hok
        replace hv := Lib.hid hv
        replace he := Lib.hid he
        go_wp2_with fail
        refine K.out.mono ?_
        rintro e w4 ⟨v4, rfl, h4, F4, o4⟩
        have R4 := Lib.hid (own_fars HR.out F4 (fun k hk => HF.out.apart HR.out hk))
        have E5 := ext_two w4 (.cells #[.int .i64 ((hd t.l).k : Int), .int .i64 ((hd t.l).f : Int), .int .i64 ((hd t.l).n : Int), .string (strB ((t.l.drop (hd t.l).to).take (hd t.l).n))] 35) (.cells #[.int .i64 ((hd t.l).k : Int), .int .i64 ((hd t.l).f : Int), .int .i64 ((hd t.l).n : Int), .string (strB ((t.l.drop (hd t.l).to).take (hd t.l).n))] 35)
        have H5 := Lib.hid (h4.ext E5)
        have R5 := Lib.hid (own_keep R4.out E5)
        have F5 := Lib.hid (((HFA.out.trans F4 (fun k hk hs => hs.imp _root_.id (fun hv => HO.out k hv))).alloc (.cells #[.int .i64 ((hd t.l).k : Int), .int .i64 ((hd t.l).f : Int), .int .i64 ((hd t.l).n : Int), .string (strB ((t.l.drop (hd t.l).to).take (hd t.l).n))] 35)).alloc (.cells #[.int .i64 ((hd t.l).k : Int), .int .i64 ((hd t.l).f : Int), .int .i64 ((hd t.l).n : Int), .string (strB ((t.l.drop (hd t.l).to).take (hd t.l).n))] 35))
        have O5 := Lib.hid (fun k hk => HO.out k (o4 k hk))
        have C5 : Hid (∀ j u, (rawW t.l).cells[j]? = some u → ((w4.alloc (.cells #[.int .i64 ((hd t.l).k : Int), .int .i64 ((hd t.l).f : Int), .int .i64 ((hd t.l).n : Int), .string (strB ((t.l.drop (hd t.l).to).take (hd t.l).n))] 35)).alloc (.cells #[.int .i64 ((hd t.l).k : Int), .int .i64 ((hd t.l).f : Int), .int .i64 ((hd t.l).n : Int), .string (strB ((t.l.drop (hd t.l).to).take (hd t.l).n))] 35)).cell? ((⟨w4.heap.size + 1, 0, none⟩ : Addr).add j) = some u) := Lib.hid (by
          intro j u hj
          have hr := heap_alloc_new (w4.alloc (.cells #[.int .i64 ((hd t.l).k : Int), .int .i64 ((hd t.l).f : Int), .int .i64 ((hd t.l).n : Int), .string (strB ((t.l.drop (hd t.l).to).take (hd t.l).n))] 35)) (.cells #[.int .i64 ((hd t.l).k : Int), .int .i64 ((hd t.l).f : Int), .int .i64 ((hd t.l).n : Int), .string (strB ((t.l.drop (hd t.l).to).take (hd t.l).n))] 35)
          rw [World.size_alloc] at hr
          rw [add_off', Nat.zero_add, cell_of_row _ _ j _ 35 (0, 0) hr]
          simpa [rawW, Rw.cells] using hj)
        have hz5 : ((w4.alloc (.cells #[.int .i64 ((hd t.l).k : Int), .int .i64 ((hd t.l).f : Int), .int .i64 ((hd t.l).n : Int), .string (strB ((t.l.drop (hd t.l).to).take (hd t.l).n))] 35)).alloc (.cells #[.int .i64 ((hd t.l).k : Int), .int .i64 ((hd t.l).f : Int), .int .i64 ((hd t.l).n : Int), .string (strB ((t.l.drop (hd t.l).to).take (hd t.l).n))] 35)).heap.size = w4.heap.size + 2 := by simp
        have hz6 := HFA.out.size
        have hz7 := F4.size
        replace hz5 := Lib.hid hz5
        clear h4 F4 o4 E5 K
        go_wp2_with (at_builtin; refine wpList_append_own _ rfl (.tmp 26) (.tmp 28) 43 rfl w.heap.size 35 i0 (.agg #[.int .i64 0, .int .i64 0, .int .i64 0, .string ⟨#[]⟩]) 4 40 Tryd.underlying43 hi hz0 hz1 hz2 rfl (by decide) (.slice la P.length lc) P.length (rwsAtC P) rfl R5.out ⟨w4.heap.size + 1, 0, none⟩ 1 1 (rawW t.l).cells rfl rfl C5.out (by intro u hu; simp [Rw.cells] at hu; rcases hu with rfl | rfl | rfl | rfl <;> rfl) (by have := HP.out; unfold maxLen; omega) (by have := HP.out; omega) (by rw [hz5.out]; omega) ?_; intro v6 w6 o6 g6 n6; obtain ⟨va6, vc6, rfl⟩ := own_slice o6; have O6 := Lib.hid o6; have G6 := Lib.hid g6; clear o6 g6 n6)
        have X6 := Lib.hid (H5.out.fars (Far.of_grown (S := fun k => (Value.slice la P.length lc).ownBlock = some k) G6.out (fun k _ hk => hk)) (fun k hk e => H5.out.apart R5.out e hk))
        have FF : Hid (Far (FS f v) w w6) := Lib.hid (F5.out.trans (Far.of_grown (S := fun k => (Value.slice la P.length lc).ownBlock = some k) G6.out (fun k _ hk => hk)) (fun k hk hv => by have := (R5.out.lt k hv).1; omega))
        go_roundw
        case rel => exact ⟨i + 1, by simp, by omega, v4, t.next.1, P ++ [rawW t.l], X6.out, by rw [List.length_append, rwsAtC_append]; simpa [rwsAtC] using O6.out, FF.out, O5.out, HDL.out, Nat.le_trans HNL.out HNN.out.1, by have := HNX.out; have := HNN.out; omega, by have := HNX.out; have := HNN.out; omega, by rw [List.length_append, HP.out]; rfl, by rw [show m - (i + 1) = j by have := hj.out; omega]; exact HA2.out⟩
        case measure => simp [intOf]; omega
    · have hlt' : ¬ (i : Int) < (m : Int) := by omega
      have hmi : m - i = 0 := by omega
      rw [hmi] at hA
      simp only [allS, List.append_nil] at hA
      have END : Hid (AllP w B f v s m (.returned (.tuple #[.slice la P.length lc, .int .i64 0])) wr) := Lib.hid ⟨v1, _, by rw [hA]; rfl, by rw [hA]; exact hf, by rw [hA]; exact hr, hF, ho⟩
      clear hf hr hF ho hdl hln hn0 hn1 hP hA hmi
      go_wp2_with fail
      go_ret2
      exact END.out
end
end Go.Proofs.YtceiipcdkonnlaaDoor

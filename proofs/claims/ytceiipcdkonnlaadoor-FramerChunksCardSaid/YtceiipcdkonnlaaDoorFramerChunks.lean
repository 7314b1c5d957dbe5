/-
  FramerChunks: FOR EVERY INPUT the law returns true and leaves its arguments as they were; the package's tables are laid (a card).
-/
import Derived.Test.YtceiipcdkonnlaaDoorTp
import Derived.Test.YtceiipcdkonnlaaDoorCards
import Derived.Test.YtceiipcdkonnlaaDoorTie
import Derived.WalkKit
import Derived.ProofKit
import Derived.OpenShut
import Derived.ChangeOld
import Derived.Below
import Derived.SizedLaws
import Derived.Lib.SmallJoins
import Derived.Deep.DeepHandedRow
import Derived.Lib.LaidTab
namespace Go.Proofs.YtceiipcdkonnlaaDoor.framerChunks
set_option linter.unusedSimpArgs false
open Go.ChangeShapes Go.WideShapes Go.ChangeAt Go.RowKit
open Go.ChangeMaps (open_string shut_string)
set_option linter.unusedVariables false

theorem own : ownKnob Tryd.prog.godebug = none := by kernel_rfl
theorem laidOut : laidOutB Tryd.prog = true := by kernel_rfl

set_option maxHeartbeats 32000000 in
set_option maxRecDepth 100000 in
theorem walk (s : ByteArray) (a1 : Option Addr) (len1 cap1 : Nat) (zs : List Int) (w : World) (ht : Tabs w) (hs : s.size ≤ 140737488351232) (hZ : IsRow .u8 w a1 len1 cap1 zs) (h1 : cap1 * 1 ≤ 140737488351232) :
    Calls Tryd.prog 4 #[.string s, .slice a1 len1 cap1] w (Yes w) := by
  obtain ⟨a0, G⟩ := ht
  have hzl := hZ.len_le
  have hz' : (len1 : Int) ≤ 9223372036854775807 := by omega
  have HZ := Lib.hid hZ.cellAt
  have AW := Lib.hid (fun W (hW : Gl a0 W) => awake12_any W hW)
  replace G := Lib.hid G
  clear hZ h1 hzl
  by_cases h2 : s.size ≤ 2000
  · have h2' : ¬ (2000 : Int) < (s.size : Int) := by omega
    have N1 := Lib.hid (f_new w)
    clear hs
    go_enter Tryd.func4, Tryd.ntmps4
    go_wp2_with fail
    refine N1.out.mono ?_
    rintro e w1 ⟨rfl, m1, b1, z1⟩
    have K1 := Lib.hid (f_feed m1 (by omega) s (by simp; omega))
    have M1 := Lib.hid m1
    have B1 := Lib.hid b1
    have F3 := Lib.hid ((G.out.ext b1).ge m1)
    clear m1 b1 z1 N1
    go_wp2_with fail
    refine K1.out.mono ?_
    rintro e w2 ⟨v2, rfl, h2f, F2, o2⟩
    have G2 := Lib.hid ((G.out.ext B1.out).far F2 (fun k hk => Nat.le_trans F3.out (M1.out.lo hk)))
    have B2 := Lib.hid (B1.out.trans (F2.below B1.out.size (fun k hk => M1.out.lo hk)))
    have hlen : (nb s).length = s.size := nb_length s
    have K2 := Lib.hid (all_any (s := ⟨[] ++ nb s, 0, 0⟩) (m := 1100) h2f G2.out (by simp; omega) (by simp) (by simp) (fun h => absurd rfl h) (by omega))
    have RU := Lib.hid (allS_runs 1100 ⟨[] ++ nb s, 0, 0⟩ (by simp; omega))
    have H2 := Lib.hid h2f
    clear h2f F2 o2 K1 hlen
    obtain ⟨⟨Lt, S, E⟩, hA⟩ : ∃ x, x = allS 1100 ⟨[] ++ nb s, 0, 0⟩ := ⟨_, rfl⟩
    have HLt := Lib.hid (allS_len 1100 ⟨[] ++ nb s, 0, 0⟩)
    unfold AllP at K2
    rw [← hA] at K2 RU HLt
    simp only at K2 RU HLt
    clear hA
    go_wp2_with fail
    refine K2.out.mono ?_
    rintro e w3 ⟨v3, vl, rfl, h3, r3, F3', o3⟩
    have G3 := Lib.hid (G2.out.far F3' (fun k hk => Nat.le_trans F3.out (H2.out.lo hk)))
    have B3 := Lib.hid (B2.out.trans (F3'.below B2.out.size (fun k hk => H2.out.lo hk)))
    have H3 := Lib.hid h3
    have R3 := Lib.hid r3
    have N4 := Lib.hid (f_new w3)
    obtain ⟨la, lc, rfl⟩ := own_slice r3
    clear h3 r3 F3' o3 K2
    go_wp2_with fail
    refine N4.out.mono ?_
    rintro e w4 ⟨rfl, m4, b4, z4⟩
    have C4 : Hid (CRd w3 w4 a0 w3.heap.size S Lt E s.size 0 (.slice none 0 0) s) := Lib.hid ⟨_, ⟨[], 0, 0⟩, [], Lt, m4, World.ownsRow_nil _ _ _ _, b4, G3.out.ext b4, fun h => absurd rfl h, RU.out, rfl, by simp, by simp, by simp, by simp⟩
    clear m4 b4 z4 N4
    go_wp2_with fail
    go_loopw [9, 10, 11] (fun mv rv iv wr => ∃ (i : Nat) (r : ByteArray), iv = .int .i64 (i : Int) ∧ rv = .string r ∧ i ≤ len1 ∧ i ≤ 60 ∧ CRd w3 wr a0 w3.heap.size S Lt E s.size i mv r) (fun _ _ iv _ => len1 - (intOf iv).toNat)
    case atStart => exact ⟨0, s, rfl, rfl, by omega, by omega, C4.out⟩
    case round =>
      obtain ⟨i, r, rfl, rfl, hi, hi2, HC⟩ := hrel
      obtain ⟨vg, t, M, L, hf, hr, hb, hg, hdl, hru, hML, hsz, hn0, hn1, hMl⟩ := HC
      clear C4
      obtain ⟨ma, mc, rfl⟩ := own_slice hr
      by_cases hlt : i < len1 ∧ i < 60
      · obtain ⟨hlt0, hlt1⟩ := hlt
        obtain ⟨bz, oz, rfl, hbz, hcz⟩ := HZ.out.resolve_left (by omega)
        have hzw := wf_u8 (hcz i hlt0).2
        have hBW : Below w.heap.size w wr := B3.out.trans (hb.mono B3.out.size)
        have hzr : wr.cell? ⟨bz, oz + i, none⟩ = some (.int .u8 (zs.getD i 0)) := (hBW.cell (p := ⟨bz, oz + i, none⟩) hbz).trans (hcz i hlt0).1
        obtain ⟨z, hz⟩ : ∃ z : Nat, (z : Int) = zs.getD i 0 := ⟨(zs.getD i 0).toNat, by omega⟩
        rw [← hz] at hzr hzw
        have hlt0' : (i : Int) < (len1 : Int) := by omega
        have hlt1' : (i : Int) < 60 := by omega
        have hrs : r.size ≤ 2000 := by omega
        have hrs' : (r.size : Int) ≤ 2000 := by omega
        replace hz := Lib.hid hz
        by_cases hzs : z ≤ r.size
        · have hzs' : (z : Int) ≤ (r.size : Int) := by omega
          have K1 := Lib.hid (f_feedS hf (by have := hf.lt; omega) (r.extract 0 z) (by have := nb_length (r.extract 0 z); rw [nb_ex] at this; simp only [List.length_take, List.length_drop, nb_length] at this; omega) hdl)
          have EXT := nb_extract r z
          have EXL : Hid ((r.extract 0 z).size + (r.extract z r.size).size = r.size) := Lib.hid (by have := congrArg List.length EXT; rw [List.length_append, nb_length, nb_length, nb_length] at this; omega)
          rw [EXT, ← more_more] at hru
          have HF := Lib.hid hf
          have HR := Lib.hid hr
          have HB := Lib.hid hb
          have HG := Lib.hid hg
          have HRU := Lib.hid hru
          have HML := Lib.hid hML
          have HS := Lib.hid (show t.l.length + r.size ≤ s.size ∧ 0 ≤ t.n ∧ t.n ≤ i ∧ M.length ≤ i from ⟨hsz, hn0, hn1, hMl⟩)
          have f3 := Lib.hid (hg.ge hf)
          clear hf hr hb hg hdl hru hML hsz hn0 hn1 hMl EXT
          go_wp2_with fail
          refine K1.out.mono ?_
          rintro e w5 ⟨v5, rfl, h5, F5, d5, l5, n5⟩
          generalize t.more (nb (r.extract 0 z)) = t1 at *
          have R5 := Lib.hid (own_fars HR.out F5 (fun k hk => HF.out.apart HR.out hk))
          have B5 := Lib.hid (HB.out.trans (F5.below HB.out.size (fun k hk => HF.out.lo hk)))
          have G5 := Lib.hid (HG.out.far F5 (fun k hk => Nat.le_trans f3.out (HF.out.lo hk)))
          have H5 := Lib.hid h5
          have HS5 : Hid (t1.l.length + (r.extract z r.size).size ≤ s.size ∧ 0 ≤ t1.n ∧ t1.n ≤ i) := Lib.hid (by have := EXL.out; have := HS.out; omega)
          have K2 := Lib.hid (f_next h5 G5.out (by have := HS5.out; omega) HS5.out.2.1 (by have := HS5.out.2.2; omega) d5)
          have HNX := Lib.hid (next_n t1)
          have HNL := Lib.hid (next_len t1)
          have HDL := Lib.hid (next_dl t1 d5)
          have HOK := Lib.hid (next_ok t1)
          have HRM := Lib.hid (runs_more HRU.out)
          clear h5 F5 d5 l5 n5 K1 HF HR HB HG
          cases hok : t1.next.2.2.1
          · obtain ⟨A, B', C, X, hAg⟩ := next_agg t1
            rw [hok, hAg] at K2
            unfold ansV at K2
            have HRM2 := Lib.hid (HRM.out.2 hok)
            replace hok := Lib.hid hok
            replace hAg := Lib.hid hAg
            go_wp2_with fail
            refine K2.out.mono ?_
            rintro e w6 ⟨v6, rfl, h6, F6, o6⟩
            have E6 := ext_alloc w6 (.cells #[.int .i64 A, .int .i64 B', .int .i64 C, .string X] 35)
            have X6 := Lib.hid (h6.ext E6)
            have R6 := Lib.hid (own_keep (own_fars R5.out F6 (fun k hk => H5.out.apart R5.out hk)) E6)
            have B6 := Lib.hid (B5.out.trans (F6.below B5.out.size (fun k hk => H5.out.lo hk)))
            have G6 := Lib.hid ((G5.out.far F6 (fun k hk => Nat.le_trans f3.out (H5.out.lo hk))).ext E6)
            clear h6 F6 o6 K2 E6
            go_wp2_with fail
            go_roundw
            case rel => exact ⟨i + 1, r.extract z r.size, by simp, rfl, by omega, by omega, v6, t1.next.1, M, L, X6.out, R6.out, B6.out.trans ((ext_alloc w6 _).mono B6.out.size), G6.out, HDL.out, HRM2.out, HML.out, by have := HNL.out; have := HS5.out; omega, by have := HNX.out; have := HS5.out; omega, by have := HNX.out; have := HS5.out; omega, by have := HS.out; omega⟩
            case measure => simp [intOf]; omega
          · obtain ⟨hv, he⟩ := HOK.out hok
            rw [hok, hv, he] at K2
            unfold ansV rawV at K2
            obtain ⟨L', hL', hru'⟩ := HRM.out.1 hok
            have HML2 : Hid ((M ++ [rawW t1.l]) ++ L' = Lt) := Lib.hid (by have := HML.out; rw [hL'] at this; simpa using this)
            have HRU2 := Lib.hid hru'
            replace hok := Lib.hid hok
            replace hv := Lib.hid hv
            replace he := Lib.hid he
            clear hL' hru'
            go_wp2_with fail
            refine K2.out.mono ?_
            rintro e w6 ⟨v6, rfl, h6, F6, o6⟩
            have E6 := ext_two w6 (.cells #[.int .i64 ((hd t1.l).k : Int), .int .i64 ((hd t1.l).f : Int), .int .i64 ((hd t1.l).n : Int), .string (strB ((t1.l.drop (hd t1.l).to).take (hd t1.l).n))] 35) (.cells #[.int .i64 ((hd t1.l).k : Int), .int .i64 ((hd t1.l).f : Int), .int .i64 ((hd t1.l).n : Int), .string (strB ((t1.l.drop (hd t1.l).to).take (hd t1.l).n))] 35)
            have X6 := Lib.hid (h6.ext E6)
            have R6 := Lib.hid (own_keep (own_fars R5.out F6 (fun k hk => H5.out.apart R5.out hk)) E6)
            have B6 := Lib.hid ((B5.out.trans (F6.below B5.out.size (fun k hk => H5.out.lo hk))).trans (E6.mono (B5.out.trans (F6.below B5.out.size (fun k hk => H5.out.lo hk))).size))
            have G6 := Lib.hid ((G5.out.far F6 (fun k hk => Nat.le_trans f3.out (H5.out.lo hk))).ext E6)
            have C6 : Hid (∀ j u, (rawW t1.l).cells[j]? = some u → ((w6.alloc (.cells #[.int .i64 ((hd t1.l).k : Int), .int .i64 ((hd t1.l).f : Int), .int .i64 ((hd t1.l).n : Int), .string (strB ((t1.l.drop (hd t1.l).to).take (hd t1.l).n))] 35)).alloc (.cells #[.int .i64 ((hd t1.l).k : Int), .int .i64 ((hd t1.l).f : Int), .int .i64 ((hd t1.l).n : Int), .string (strB ((t1.l.drop (hd t1.l).to).take (hd t1.l).n))] 35)).cell? ((⟨w6.heap.size + 1, 0, none⟩ : Addr).add j) = some u) := Lib.hid (by
              intro j u hj
              have hr := heap_alloc_new (w6.alloc (.cells #[.int .i64 ((hd t1.l).k : Int), .int .i64 ((hd t1.l).f : Int), .int .i64 ((hd t1.l).n : Int), .string (strB ((t1.l.drop (hd t1.l).to).take (hd t1.l).n))] 35)) (.cells #[.int .i64 ((hd t1.l).k : Int), .int .i64 ((hd t1.l).f : Int), .int .i64 ((hd t1.l).n : Int), .string (strB ((t1.l.drop (hd t1.l).to).take (hd t1.l).n))] 35)
              rw [World.size_alloc] at hr
              rw [add_off', Nat.zero_add, cell_of_row _ _ j _ 35 (0, 0) hr]
              simpa [rawW, Rw.cells] using hj)
            have hz5 := B6.out.size
            have hML6 : M.length ≤ 60 := by have := HS.out; omega
            replace hz5 := Lib.hid hz5
            clear h6 F6 o6 E6 K2
            obtain ⟨i0, hi0, hz0, hz1, hz2⟩ := info_parts info35
            go_wp2_with (at_builtin; refine wpList_append_own _ rfl (.tmp 66) (.tmp 68) 43 rfl w3.heap.size 35 i0 (.agg #[.int .i64 0, .int .i64 0, .int .i64 0, .string ⟨#[]⟩]) 4 40 Tryd.underlying43 hi0 hz0 hz1 hz2 rfl (by decide) (.slice ma M.length mc) M.length (rwsAtC M) rfl R6.out ⟨w6.heap.size + 1, 0, none⟩ 1 1 (rawW t1.l).cells rfl rfl C6.out (by intro u hu; simp [Rw.cells] at hu; rcases hu with rfl | rfl | rfl | rfl <;> rfl) (by unfold maxLen; omega) (by omega) (by have := hz5.out; exact this) ?_; intro v7 w7 o7 g7 n7; obtain ⟨va7, vc7, rfl⟩ := own_slice o7; have O7 := Lib.hid o7; have G7 := Lib.hid g7; clear o7 g7 n7)
            have F7 := Lib.hid (Far.of_grown (S := fun k => (Value.slice ma M.length mc).ownBlock = some k) G7.out (fun k _ hk => hk))
            have X7 := Lib.hid (X6.out.fars F7.out (fun k hk e => X6.out.apart R6.out e hk))
            have B7 := Lib.hid (B6.out.trans (F7.out.below B6.out.size (fun k hk => (R6.out.lt k hk).1)))
            have GG7 := Lib.hid (G6.out.far F7.out (fun k hk => by have := (R6.out.lt k hk).1; have := f3.out; omega))
            have O8 : Hid (w7.ownsRow w3.heap.size 35 4 (.slice va7 (M.length + 1) vc7) (M ++ [rawW t1.l]).length (rwsAtC (M ++ [rawW t1.l]))) := Lib.hid (by rw [List.length_append, rwsAtC_append]; exact (show rwsAtC [rawW t1.l] = (rawW t1.l).cells by simp [rwsAtC]) ▸ O7.out)
            have L8 : Hid ((M ++ [rawW t1.l]).length ≤ i + 1) := Lib.hid (by rw [List.length_append]; have := HS.out; show M.length + 1 ≤ i + 1; omega)
            clear O7 G7 F7 R6 C6 X6 B6 G6 hz5 hi0 hz0 hz1 hz2
            go_roundw
            case rel => exact ⟨i + 1, r.extract z r.size, by simp, rfl, by omega, by omega, v6, t1.next.1, M ++ [rawW t1.l], L', X7.out, O8.out, B7.out, GG7.out, HDL.out, HRU2.out, HML2.out, by have := HNL.out; have := HS5.out; omega, by have := HNX.out; have := HS5.out; omega, by have := HNX.out; have := HS5.out; omega, L8.out⟩
            case measure => simp [intOf]; omega
        · have hzs' : ¬ (z : Int) ≤ (r.size : Int) := by omega
          have hzs2 : (r.size : Int) ≤ (z : Int) := by omega
          have hzs3 : (r.size : Int) < (z : Int) := by omega
          have K1 := Lib.hid (f_feedS hf (by have := hf.lt; omega) r (by omega) hdl)
          have EXT : nb r = nb r ++ nb ByteArray.empty := (List.append_nil _).symm
          have EXL : Hid (r.size + ByteArray.empty.size = r.size) := Lib.hid rfl
          rw [EXT, ← more_more] at hru
          have HF := Lib.hid hf
          have HR := Lib.hid hr
          have HB := Lib.hid hb
          have HG := Lib.hid hg
          have HRU := Lib.hid hru
          have HML := Lib.hid hML
          have HS := Lib.hid (show t.l.length + r.size ≤ s.size ∧ 0 ≤ t.n ∧ t.n ≤ i ∧ M.length ≤ i from ⟨hsz, hn0, hn1, hMl⟩)
          have f3 := Lib.hid (hg.ge hf)
          clear hf hr hb hg hdl hru hML hsz hn0 hn1 hMl EXT
          go_wp2_with fail
          refine K1.out.mono ?_
          rintro e w5 ⟨v5, rfl, h5, F5, d5, l5, n5⟩
          generalize t.more (nb r) = t1 at *
          have R5 := Lib.hid (own_fars HR.out F5 (fun k hk => HF.out.apart HR.out hk))
          have B5 := Lib.hid (HB.out.trans (F5.below HB.out.size (fun k hk => HF.out.lo hk)))
          have G5 := Lib.hid (HG.out.far F5 (fun k hk => Nat.le_trans f3.out (HF.out.lo hk)))
          have H5 := Lib.hid h5
          have HS5 : Hid (t1.l.length + (ByteArray.empty).size ≤ s.size ∧ 0 ≤ t1.n ∧ t1.n ≤ i) := Lib.hid (by have := EXL.out; have := HS.out; omega)
          have K2 := Lib.hid (f_next h5 G5.out (by have := HS5.out; omega) HS5.out.2.1 (by have := HS5.out.2.2; omega) d5)
          have HNX := Lib.hid (next_n t1)
          have HNL := Lib.hid (next_len t1)
          have HDL := Lib.hid (next_dl t1 d5)
          have HOK := Lib.hid (next_ok t1)
          have HRM := Lib.hid (runs_more HRU.out)
          clear h5 F5 d5 l5 n5 K1 HF HR HB HG
          cases hok : t1.next.2.2.1
          · obtain ⟨A, B', C, X, hAg⟩ := next_agg t1
            rw [hok, hAg] at K2
            unfold ansV at K2
            have HRM2 := Lib.hid (HRM.out.2 hok)
            replace hok := Lib.hid hok
            replace hAg := Lib.hid hAg
            go_wp2_with fail
            refine K2.out.mono ?_
            rintro e w6 ⟨v6, rfl, h6, F6, o6⟩
            have E6 := ext_alloc w6 (.cells #[.int .i64 A, .int .i64 B', .int .i64 C, .string X] 35)
            have X6 := Lib.hid (h6.ext E6)
            have R6 := Lib.hid (own_keep (own_fars R5.out F6 (fun k hk => H5.out.apart R5.out hk)) E6)
            have B6 := Lib.hid (B5.out.trans (F6.below B5.out.size (fun k hk => H5.out.lo hk)))
            have G6 := Lib.hid ((G5.out.far F6 (fun k hk => Nat.le_trans f3.out (H5.out.lo hk))).ext E6)
            clear h6 F6 o6 K2 E6
            go_wp2_with fail
            go_roundw
            case rel => exact ⟨i + 1, ByteArray.empty, by simp, rfl, by omega, by omega, v6, t1.next.1, M, L, X6.out, R6.out, B6.out.trans ((ext_alloc w6 _).mono B6.out.size), G6.out, HDL.out, HRM2.out, HML.out, by have := HNL.out; have := HS5.out; omega, by have := HNX.out; have := HS5.out; omega, by have := HNX.out; have := HS5.out; omega, by have := HS.out; omega⟩
            case measure => simp [intOf]; omega
          · obtain ⟨hv, he⟩ := HOK.out hok
            rw [hok, hv, he] at K2
            unfold ansV rawV at K2
            obtain ⟨L', hL', hru'⟩ := HRM.out.1 hok
            have HML2 : Hid ((M ++ [rawW t1.l]) ++ L' = Lt) := Lib.hid (by have := HML.out; rw [hL'] at this; simpa using this)
            have HRU2 := Lib.hid hru'
            replace hok := Lib.hid hok
            replace hv := Lib.hid hv
            replace he := Lib.hid he
            clear hL' hru'
            go_wp2_with fail
            refine K2.out.mono ?_
            rintro e w6 ⟨v6, rfl, h6, F6, o6⟩
            have E6 := ext_two w6 (.cells #[.int .i64 ((hd t1.l).k : Int), .int .i64 ((hd t1.l).f : Int), .int .i64 ((hd t1.l).n : Int), .string (strB ((t1.l.drop (hd t1.l).to).take (hd t1.l).n))] 35) (.cells #[.int .i64 ((hd t1.l).k : Int), .int .i64 ((hd t1.l).f : Int), .int .i64 ((hd t1.l).n : Int), .string (strB ((t1.l.drop (hd t1.l).to).take (hd t1.l).n))] 35)
            have X6 := Lib.hid (h6.ext E6)
            have R6 := Lib.hid (own_keep (own_fars R5.out F6 (fun k hk => H5.out.apart R5.out hk)) E6)
            have B6 := Lib.hid ((B5.out.trans (F6.below B5.out.size (fun k hk => H5.out.lo hk))).trans (E6.mono (B5.out.trans (F6.below B5.out.size (fun k hk => H5.out.lo hk))).size))
            have G6 := Lib.hid ((G5.out.far F6 (fun k hk => Nat.le_trans f3.out (H5.out.lo hk))).ext E6)
            have C6 : Hid (∀ j u, (rawW t1.l).cells[j]? = some u → ((w6.alloc (.cells #[.int .i64 ((hd t1.l).k : Int), .int .i64 ((hd t1.l).f : Int), .int .i64 ((hd t1.l).n : Int), .string (strB ((t1.l.drop (hd t1.l).to).take (hd t1.l).n))] 35)).alloc (.cells #[.int .i64 ((hd t1.l).k : Int), .int .i64 ((hd t1.l).f : Int), .int .i64 ((hd t1.l).n : Int), .string (strB ((t1.l.drop (hd t1.l).to).take (hd t1.l).n))] 35)).cell? ((⟨w6.heap.size + 1, 0, none⟩ : Addr).add j) = some u) := Lib.hid (by
              intro j u hj
              have hr := heap_alloc_new (w6.alloc (.cells #[.int .i64 ((hd t1.l).k : Int), .int .i64 ((hd t1.l).f : Int), .int .i64 ((hd t1.l).n : Int), .string (strB ((t1.l.drop (hd t1.l).to).take (hd t1.l).n))] 35)) (.cells #[.int .i64 ((hd t1.l).k : Int), .int .i64 ((hd t1.l).f : Int), .int .i64 ((hd t1.l).n : Int), .string (strB ((t1.l.drop (hd t1.l).to).take (hd t1.l).n))] 35)
              rw [World.size_alloc] at hr
              rw [add_off', Nat.zero_add, cell_of_row _ _ j _ 35 (0, 0) hr]
              simpa [rawW, Rw.cells] using hj)
            have hz5 := B6.out.size
            have hML6 : M.length ≤ 60 := by have := HS.out; omega
            replace hz5 := Lib.hid hz5
            clear h6 F6 o6 E6 K2
            obtain ⟨i0, hi0, hz0, hz1, hz2⟩ := info_parts info35
            go_wp2_with (at_builtin; refine wpList_append_own _ rfl (.tmp 66) (.tmp 68) 43 rfl w3.heap.size 35 i0 (.agg #[.int .i64 0, .int .i64 0, .int .i64 0, .string ⟨#[]⟩]) 4 40 Tryd.underlying43 hi0 hz0 hz1 hz2 rfl (by decide) (.slice ma M.length mc) M.length (rwsAtC M) rfl R6.out ⟨w6.heap.size + 1, 0, none⟩ 1 1 (rawW t1.l).cells rfl rfl C6.out (by intro u hu; simp [Rw.cells] at hu; rcases hu with rfl | rfl | rfl | rfl <;> rfl) (by unfold maxLen; omega) (by omega) (by have := hz5.out; exact this) ?_; intro v7 w7 o7 g7 n7; obtain ⟨va7, vc7, rfl⟩ := own_slice o7; have O7 := Lib.hid o7; have G7 := Lib.hid g7; clear o7 g7 n7)
            have F7 := Lib.hid (Far.of_grown (S := fun k => (Value.slice ma M.length mc).ownBlock = some k) G7.out (fun k _ hk => hk))
            have X7 := Lib.hid (X6.out.fars F7.out (fun k hk e => X6.out.apart R6.out e hk))
            have B7 := Lib.hid (B6.out.trans (F7.out.below B6.out.size (fun k hk => (R6.out.lt k hk).1)))
            have GG7 := Lib.hid (G6.out.far F7.out (fun k hk => by have := (R6.out.lt k hk).1; have := f3.out; omega))
            have O8 : Hid (w7.ownsRow w3.heap.size 35 4 (.slice va7 (M.length + 1) vc7) (M ++ [rawW t1.l]).length (rwsAtC (M ++ [rawW t1.l]))) := Lib.hid (by rw [List.length_append, rwsAtC_append]; exact (show rwsAtC [rawW t1.l] = (rawW t1.l).cells by simp [rwsAtC]) ▸ O7.out)
            have L8 : Hid ((M ++ [rawW t1.l]).length ≤ i + 1) := Lib.hid (by rw [List.length_append]; have := HS.out; show M.length + 1 ≤ i + 1; omega)
            clear O7 G7 F7 R6 C6 X6 B6 G6 hz5 hi0 hz0 hz1 hz2
            go_roundw
            case rel => exact ⟨i + 1, ByteArray.empty, by simp, rfl, by omega, by omega, v6, t1.next.1, M ++ [rawW t1.l], L', X7.out, O8.out, B7.out, GG7.out, HDL.out, HRU2.out, HML2.out, by have := HNL.out; have := HS5.out; omega, by have := HNX.out; have := HS5.out; omega, by have := HNX.out; have := HS5.out; omega, L8.out⟩
            case measure => simp [intOf]; omega
      · have hrs : r.size ≤ 2000 := by omega
        by_cases h1 : i < len1
        · have h1' : (i : Int) < (len1 : Int) := by omega
          have h2x : ¬ (i : Int) < 60 := by omega
          have K1 := Lib.hid (f_feedS hf (by have := hf.lt; omega) r (by omega) hdl)
          have HF := Lib.hid hf
          have HR := Lib.hid hr
          have HB := Lib.hid hb
          have HG := Lib.hid hg
          have HRU := Lib.hid hru
          have HML := Lib.hid hML
          have HS := Lib.hid (show t.l.length + r.size ≤ s.size ∧ 0 ≤ t.n ∧ t.n ≤ i ∧ M.length ≤ i from ⟨hsz, hn0, hn1, hMl⟩)
          have f3 := Lib.hid (hg.ge hf)
          clear hf hr hb hg hdl hru hML hsz hn0 hn1 hMl
          go_wp2_with fail
          refine K1.out.mono ?_
          rintro e w5 ⟨v5, rfl, h5, F5, d5, l5, n5⟩
          have HA : Hid (allS 1100 (t.more (nb r)) = (L, S, E)) := Lib.hid (by
            have r1 := allS_runs 1100 (t.more (nb r)) (by have := HS.out; omega)
            obtain ⟨e1, e2, e3⟩ := r1.det HRU.out
            rw [← e1, ← e2, ← e3])
          have R5 := Lib.hid (own_fars HR.out F5 (fun k hk => HF.out.apart HR.out hk))
          have B5 := Lib.hid (HB.out.trans (F5.below HB.out.size (fun k hk => HF.out.lo hk)))
          have G5 := Lib.hid (HG.out.far F5 (fun k hk => Nat.le_trans f3.out (HF.out.lo hk)))
          have H5 := Lib.hid h5
          have K2 := Lib.hid (all_any (s := t.more (nb r)) (m := 1100) h5 G5.out (by have := HS.out; omega) (by have := HS.out; omega) (by have := HS.out; omega) d5 (by omega))
          unfold AllP at K2
          rw [HA.out] at K2
          simp only at K2
          clear h5 F5 d5 l5 n5 K1 HF HR HB HG
          go_wp2_with fail
          refine K2.out.mono ?_
          rintro e w6 ⟨v6, vk, rfl, h6, r6, F6, o6⟩
          have R6 := Lib.hid (own_fars R5.out F6 (fun k hk => H5.out.apart R5.out hk))
          have B6 := Lib.hid (B5.out.trans (F6.below B5.out.size (fun k hk => H5.out.lo hk)))
          have G6 := Lib.hid (G5.out.far F6 (fun k hk => Nat.le_trans f3.out (H5.out.lo hk)))
          have X6 := Lib.hid h6
          have Q6 := Lib.hid r6
          obtain ⟨ka, kc, rfl⟩ := own_slice r6
          have hz6 := Lib.hid B6.out.size
          have hLt := Lib.hid (show M.length + L.length = Lt.length by rw [← HML.out, List.length_append])
          have hLt2 := Lib.hid (show Lt.length ≤ 1100 from HLt.out)
          clear h6 r6 F6 o6 K2 H5 R5 B5 G5
          obtain ⟨i0, hi0, hz0, hz1, hz2⟩ := info_parts info35
          go_wp2_with (at_builtin; refine wpList_append_rows rfl (.tmp 78) (.tmp 79) 43 rfl w3.heap.size w5.heap.size 35 i0 (.agg #[.int .i64 0, .int .i64 0, .int .i64 0, .string ⟨#[]⟩]) 4 40 Tryd.underlying43 hi0 hz0 hz1 hz2 rfl (by decide) (.slice ma M.length mc) M.length (rwsAtC M) rfl R6.out (.slice ka L.length kc) L.length (rwsAtC L) rfl Q6.out (rwsAtC_one L) (by have := hLt.out; have := hLt2.out; unfold maxLen; omega) (by have := hLt.out; have := hLt2.out; omega) (by have := hz6.out; exact this) ?_; intro v7 w7 o7 g7; obtain ⟨va7, vc7, rfl⟩ := own_slice o7; have O7 := Lib.hid o7; have G7 := Lib.hid g7; have SM : Hid (Calls Tryd.prog 18 #[.slice la Lt.length lc, .slice va7 (M.length + L.length) vc7] w7 (Yes w7)) := Lib.hid (chunk_same R3.out R6.out X6.out B6.out O7.out G7.out HML.out hLt2.out); clear o7 g7)
          refine SM.out.mono ?_
          rintro e w8 ⟨rfl, b8⟩
          have F7 := Lib.hid (Far.of_grown (S := fun k => (Value.slice ma M.length mc).ownBlock = some k) G7.out (fun k _ hk => hk))
          have X8 := Lib.hid ((X6.out.fars F7.out (fun k hk e => X6.out.apart R6.out e hk)).ext b8)
          have B7 := B6.out.trans (F7.out.below B6.out.size (fun k hk => (R6.out.lt k hk).1))
          have B8 := Lib.hid (B7.trans (b8.mono B7.size))
          have G8 := Lib.hid ((G6.out.far F7.out (fun k hk => by have := (R6.out.lt k hk).1; have := f3.out; omega)).ext b8)
          have W1 := Lib.hid (f_waits (H3.out.ext B8.out))
          have W2 := Lib.hid (f_waits X8.out)
          have W3 := Lib.hid (f_taken (H3.out.ext B8.out))
          have hct := RU.out.count
          simp only [Int.zero_add] at hct
          rw [hct] at W3
          replace hct := Lib.hid hct
          have GA := Lib.hid (AW.out _ G8.out)
          clear B7 b8 O7 G7 F7 X6 R6 B6 G6 SM
          go_wp2_with fail
          refine W1.out.mono ?_
          rintro e w9 ⟨rfl, rfl⟩
          go_wp2_with fail
          refine W2.out.mono ?_
          rintro e w9 ⟨rfl, rfl⟩
          go_wp2_with fail
          refine W3.out.mono ?_
          rintro e w9 ⟨rfl, rfl⟩
          go_wp2_with fail
          refine GA.out.mono ?_
          rintro e w9 ⟨rfl, b9⟩
          go_wp2_with fail
          go_ret
          have BB := B3.out.trans (B8.out.mono B3.out.size)
          exact ⟨rfl, BB.trans (b9.mono BB.size)⟩
        · have h1' : ¬ (i : Int) < (len1 : Int) := by omega
          have K1 := Lib.hid (f_feedS hf (by have := hf.lt; omega) r (by omega) hdl)
          have HF := Lib.hid hf
          have HR := Lib.hid hr
          have HB := Lib.hid hb
          have HG := Lib.hid hg
          have HRU := Lib.hid hru
          have HML := Lib.hid hML
          have HS := Lib.hid (show t.l.length + r.size ≤ s.size ∧ 0 ≤ t.n ∧ t.n ≤ i ∧ M.length ≤ i from ⟨hsz, hn0, hn1, hMl⟩)
          have f3 := Lib.hid (hg.ge hf)
          clear hf hr hb hg hdl hru hML hsz hn0 hn1 hMl
          go_wp2_with fail
          refine K1.out.mono ?_
          rintro e w5 ⟨v5, rfl, h5, F5, d5, l5, n5⟩
          have HA : Hid (allS 1100 (t.more (nb r)) = (L, S, E)) := Lib.hid (by
            have r1 := allS_runs 1100 (t.more (nb r)) (by have := HS.out; omega)
            obtain ⟨e1, e2, e3⟩ := r1.det HRU.out
            rw [← e1, ← e2, ← e3])
          have R5 := Lib.hid (own_fars HR.out F5 (fun k hk => HF.out.apart HR.out hk))
          have B5 := Lib.hid (HB.out.trans (F5.below HB.out.size (fun k hk => HF.out.lo hk)))
          have G5 := Lib.hid (HG.out.far F5 (fun k hk => Nat.le_trans f3.out (HF.out.lo hk)))
          have H5 := Lib.hid h5
          have K2 := Lib.hid (all_any (s := t.more (nb r)) (m := 1100) h5 G5.out (by have := HS.out; omega) (by have := HS.out; omega) (by have := HS.out; omega) d5 (by omega))
          unfold AllP at K2
          rw [HA.out] at K2
          simp only at K2
          clear h5 F5 d5 l5 n5 K1 HF HR HB HG
          go_wp2_with fail
          refine K2.out.mono ?_
          rintro e w6 ⟨v6, vk, rfl, h6, r6, F6, o6⟩
          have R6 := Lib.hid (own_fars R5.out F6 (fun k hk => H5.out.apart R5.out hk))
          have B6 := Lib.hid (B5.out.trans (F6.below B5.out.size (fun k hk => H5.out.lo hk)))
          have G6 := Lib.hid (G5.out.far F6 (fun k hk => Nat.le_trans f3.out (H5.out.lo hk)))
          have X6 := Lib.hid h6
          have Q6 := Lib.hid r6
          obtain ⟨ka, kc, rfl⟩ := own_slice r6
          have hz6 := Lib.hid B6.out.size
          have hLt := Lib.hid (show M.length + L.length = Lt.length by rw [← HML.out, List.length_append])
          have hLt2 := Lib.hid (show Lt.length ≤ 1100 from HLt.out)
          clear h6 r6 F6 o6 K2 H5 R5 B5 G5
          obtain ⟨i0, hi0, hz0, hz1, hz2⟩ := info_parts info35
          go_wp2_with (at_builtin; refine wpList_append_rows rfl (.tmp 78) (.tmp 79) 43 rfl w3.heap.size w5.heap.size 35 i0 (.agg #[.int .i64 0, .int .i64 0, .int .i64 0, .string ⟨#[]⟩]) 4 40 Tryd.underlying43 hi0 hz0 hz1 hz2 rfl (by decide) (.slice ma M.length mc) M.length (rwsAtC M) rfl R6.out (.slice ka L.length kc) L.length (rwsAtC L) rfl Q6.out (rwsAtC_one L) (by have := hLt.out; have := hLt2.out; unfold maxLen; omega) (by have := hLt.out; have := hLt2.out; omega) (by have := hz6.out; exact this) ?_; intro v7 w7 o7 g7; obtain ⟨va7, vc7, rfl⟩ := own_slice o7; have O7 := Lib.hid o7; have G7 := Lib.hid g7; have SM : Hid (Calls Tryd.prog 18 #[.slice la Lt.length lc, .slice va7 (M.length + L.length) vc7] w7 (Yes w7)) := Lib.hid (chunk_same R3.out R6.out X6.out B6.out O7.out G7.out HML.out hLt2.out); clear o7 g7)
          refine SM.out.mono ?_
          rintro e w8 ⟨rfl, b8⟩
          have F7 := Lib.hid (Far.of_grown (S := fun k => (Value.slice ma M.length mc).ownBlock = some k) G7.out (fun k _ hk => hk))
          have X8 := Lib.hid ((X6.out.fars F7.out (fun k hk e => X6.out.apart R6.out e hk)).ext b8)
          have B7 := B6.out.trans (F7.out.below B6.out.size (fun k hk => (R6.out.lt k hk).1))
          have B8 := Lib.hid (B7.trans (b8.mono B7.size))
          have G8 := Lib.hid ((G6.out.far F7.out (fun k hk => by have := (R6.out.lt k hk).1; have := f3.out; omega)).ext b8)
          have W1 := Lib.hid (f_waits (H3.out.ext B8.out))
          have W2 := Lib.hid (f_waits X8.out)
          have W3 := Lib.hid (f_taken (H3.out.ext B8.out))
          have hct := RU.out.count
          simp only [Int.zero_add] at hct
          rw [hct] at W3
          replace hct := Lib.hid hct
          have GA := Lib.hid (AW.out _ G8.out)
          clear B7 b8 O7 G7 F7 X6 R6 B6 G6 SM
          go_wp2_with fail
          refine W1.out.mono ?_
          rintro e w9 ⟨rfl, rfl⟩
          go_wp2_with fail
          refine W2.out.mono ?_
          rintro e w9 ⟨rfl, rfl⟩
          go_wp2_with fail
          refine W3.out.mono ?_
          rintro e w9 ⟨rfl, rfl⟩
          go_wp2_with fail
          refine GA.out.mono ?_
          rintro e w9 ⟨rfl, b9⟩
          go_wp2_with fail
          go_ret
          have BB := B3.out.trans (B8.out.mono B3.out.size)
          exact ⟨rfl, BB.trans (b9.mono BB.size)⟩
  · have h2' : (2000 : Int) < (s.size : Int) := by omega
    have GA := Lib.hid (AW.out _ G.out)
    go_enter Tryd.func4, Tryd.ntmps4
    go_wp2_with fail
    refine GA.out.mono ?_
    rintro e w9 ⟨rfl, b9⟩
    go_wp2_with fail
    go_ret
    exact ⟨rfl, b9⟩

set_option maxRecDepth 100000 in
theorem contract (F : Stop.Interp) (H : Type) (enc : TypeId × Value → H) (W : World) (base : Nat) (args : Array Value) (ds gs : List (DataW H)) (before : List MemPlace)
    (hval : ∀ (j : Nat) t v, Tryd.f4.params[j]? = some t → args[j]? = some v → Value.okWide Tryd.prog W .any base t v)
    (hW : DataW.Whole enc Tryd.prog Tryd.f4.params.toList Rows.framerChunksSpec.vars false W args.toList ds gs before)
    
    (hsz : (DataW.weightsEach Tryd.prog (Tryd.f4.params.toList ++ (OpenSpec.ofChange Rows.framerChunksSpec).bare.plain.varTypes Tryd.prog) (ds ++ gs)).all (· ≤ reachBytes) = true) (hL : laidMetH Tryd.prog Rows.framerChunksRow.laid W) :
    Calls Tryd.prog 4 args W fun e W' => ∃ v, e = .returned v ∧ ((OpenSpec.ofChange Rows.framerChunksSpec).at F).post enc Tryd.prog Tryd.f4 false true false false W args v W' := by
  have hW' := hW
  obtain ⟨p, q, hA0, hV, rfl, hfz, hnd⟩ := hW
  have hA : DataW.TrodAll enc Tryd.prog W 0 (fun _ => true) true Tryd.f4.params.toList args.toList ds p := hA0
  rw [Tryd.params4] at hA hval hsz
  obtain ⟨v0, vs0, d0, ds0, p0, q0, hargs, rfl, rfl, h0, r0⟩ := trodAll_cons hA
  obtain ⟨v1, vs1, d1, ds1, p1, q1, rfl, rfl, rfl, h1, r1⟩ := trodAll_cons r0
  obtain ⟨rfl, rfl, rfl⟩ := trodAll_nil r1
  obtain rfl : args = #[v0, v1] := by cases args; simp_all
  obtain ⟨rfl, rfl⟩ := trodVars_none hV
  have k0 := h0
  have lt0 : ∀ x ∈ p0, x.block < W.heap.size := by obtain ⟨m, hm⟩ := k0; exact DataW.trod_lt m _ _ _ hm
  have k1 := h1
  have lt1 : ∀ x ∈ p1, x.block < W.heap.size := by obtain ⟨m, hm⟩ := k1; exact DataW.trod_lt m _ _ _ hm
  obtain ⟨a0, rfl, rfl, rfl, w0⟩ := open_string Tryd.underlying9 (hval 0 9 v0 rfl rfl) h0
  have s0 : a0.size ≤ 140737488351232 := by
    have := sized_string hsz (j := 0) (t := 9) rfl rfl
    simp only [Array.length_toList, reachBytes] at this
    exact this
  obtain ⟨a1, len1, cap1, rfl⟩ := okWide_slice Tryd.underlying23 (hval 1 23 v1 rfl rfl)
  obtain ⟨z1, w1, s1⟩ : ∃ zs, IsRow .u8 W a1 len1 cap1 zs ∧ cap1 * 1 ≤ 140737488351232 := by
    obtain ⟨fuel, hf⟩ := h1
    rcases open_ints Tryd.underlying23 Tryd.underlying5 (by kernel_rfl) hf with ⟨hcs, _⟩ | ⟨x, l, c, zs, hcs, _, hl, hm, hz, hx, hcell, hwz⟩
    · simp [Value.cells] at hcs
      obtain ⟨rfl, rfl, rfl⟩ := hcs
      exact ⟨[], .inl ⟨rfl, rfl, rfl, rfl⟩, by omega⟩
    · simp [Value.cells] at hcs
      obtain ⟨rfl, rfl, rfl⟩ := hcs
      have hz' : zs.length = cap1 := by simpa using hz
      have hd : d1 = .slice (lits .u8 (zs.take len1)) (lits .u8 (zs.drop len1)) := congrArg Prod.fst hx
      have hroom := sized_slice hsz (j := 1) (t := 23) (e := 5) rfl (by rw [hd]; rfl) Tryd.underlying23
      rw [show Tryd.prog.bytesOf 5 = 1 from by kernel_rfl] at hroom
      simp only [lits, List.length_map, List.length_take, List.length_drop, reachBytes] at hroom
      exact ⟨zs, .inr ⟨_, rfl, hl, hm, hz', hcell, hwz⟩, by omega⟩
  clear hA0
  refine (walk a0 a1 len1 cap1 z1 W (tabs_of hL) s0 w1 s1).mono fun e W' ⟨he, bel⟩ => ?_
  subst he
  exact ⟨_, rfl, _, _, _, [], _, [], hW', trodAll_mk1 (shut_bool Tryd.underlying4 _), (trodAll_cons_mk (Below.trod laidOut (by kernel_rfl) (of_decide_eq_true (by kernel_rfl)) k0 bel lt0) (trodAll_cons_mk (Below.trod laidOut (by kernel_rfl) (of_decide_eq_true (by kernel_rfl)) k1 bel lt1) trodAll_mk0)), rfl, bel.frame _, fun h => by cases h⟩

/-- A world for the witness. -/
noncomputable def laidWorld (os : Os) : World := laidW os
theorem laid_met (os : Os) : laidMetH Tryd.prog Rows.framerChunksRow.laid ((laidWorld os).forCall (fun _ _ => 0) ⟨#[], #[.string ByteArray.empty, .slice none 0 0], []⟩).memory := laidW_met os _
theorem reads (os : Os) {H : Type} (enc : TypeId × Value → H) : ∃ places, DataW.whole enc Tryd.prog ((laidWorld os).forCall (fun _ _ => 0) ⟨#[], #[.string ByteArray.empty, .slice none 0 0], []⟩).memory Tryd.f4.params.toList Rows.framerChunksSpec.vars false #[Value.string ByteArray.empty, .slice none 0 0].toList 8 = some ([.lit (.string []), .nil], [], places) :=
  ⟨[], by kernel_rfl⟩

set_option maxRecDepth 100000 in
theorem lifted (os : Os) (started : os.Started) (H : Type) (enc : TypeId × Value → H) (F : Stop.Interp) :
    ReturnsInHanded {} Tryd.checked os 4 .any ((OpenSpec.ofChange Rows.framerChunksSpec).preRow enc Tryd.prog Tryd.f4 Rows.framerChunksRow.domain false Rows.framerChunksRow.laid) (((OpenSpec.ofChange Rows.framerChunksSpec).at F).post enc Tryd.prog Tryd.f4 false true false false) := by
  obtain ⟨places, hx⟩ := reads os enc
  refine returnsInHanded_of_row (C := Tryd.checked) (s := (OpenSpec.ofChange Rows.framerChunksSpec)) own started (by kernel_rfl) Tryd.func4
    (witness_row_at (enc := enc) (C := Tryd.checked) false (laidWorld os) #[.string ByteArray.empty, .slice none 0 0] rfl (by kernel_rfl) (by kernel_rfl) (by kernel_rfl)
      (OpenSpec.preRow_of_cond 8 hx (by kernel_rfl) (fun k hk => by cases hk) (by kernel_rfl) (laid_met os))) ?_
  intro W base args ds gs before hval hW _ hcnd hsz hL _ _
  exact contract F H enc W base args ds gs before hval hW  hsz hL

theorem said : Rows.FramerChunksSaid :=
  OpenClaim.holds_of_cond 4 Tryd.f4 rfl rfl rfl rfl rfl rfl rfl ⟨rfl, rfl, rfl, rfl, rfl⟩ rfl rfl rfl rfl rfl (by kernel_rfl) Tryd.func4 (by kernel_rfl)
    (of_decide_eq_true (by kernel_rfl)) (by unfold Func.isWrapper; first | (rw [if_pos (by decide +kernel)]; kernel_rfl) | (rw [if_neg (by decide +kernel)]; exact ⟨rfl, rfl⟩))
    (fun os started H enc _ F => by rw [OpenClaim.pre_eq_preRow]; exact lifted os started H enc F)

theorem plain (f : FuncId) (fn : Func) (hf : Tryd.pinned.checked.prog.funcNamed "crier/crierlaw12.FramerChunks" = some f) (hfn : Tryd.pinned.checked.prog.funcs[f]? = some fn) :
    true = Tryd.pinned.checked.prog.looks [] ∧ ∀ (j : Nat) t, fn.params[j]? = some t → Tryd.pinned.checked.prog.wantsStandIn t = false := by
  obtain rfl : f = 4 := Option.some.inj ((show Tryd.prog.funcNamed "crier/crierlaw12.FramerChunks" = some 4 by kernel_rfl).symm.trans hf) |>.symm
  obtain rfl : fn = Tryd.f4 := (Option.some.inj (Tryd.func4.symm.trans hfn)).symm
  refine ⟨by kernel_rfl, fun j t ht => ?_⟩
  rw [Tryd.params4] at ht
  have : t = 9 ∨ t = 23 := by have := Array.mem_of_getElem? ht; simp at this; first | exact this | omega | grind
  rcases this with rfl | rfl
  · exact (show Tryd.prog.wantsStandIn 9 = false by kernel_rfl)
  · exact (show Tryd.prog.wantsStandIn 23 = false by kernel_rfl)

/-- THE CARD. -/
theorem proved : Rows.FramerChunksCardSaid :=
  Claim7.holds_tied_plain_at .later [] _ _ _ _ said (fun _ h => by cases h) (by kernel_rfl) (fun _ h => by cases h) framerChunks_row_tie rfl ⟨rfl, rfl⟩ (by kernel_rfl) rfl plain (by kernel_rfl)
end Go.Proofs.YtceiipcdkonnlaaDoor.framerChunks

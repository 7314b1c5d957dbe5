/-
  LAYER 3: the program's Of.
-/
import Derived.Test.YtoglgdkeknojkaaWk2
namespace Go.Proofs.Ytoglgdkeknojkaa
open Go.RowKit

theorem nextF_op {l : List Nat} {k p : Nat} {op op' : List Nat} {F : Option Fd} (h : nextF l k op = .ok (p, op', F)) (h8 : op.length ≤ 8) : op'.length ≤ 8 := by
  unfold nextF at h
  split at h
  · cases h
  split at h
  · cases h
  split at h
  · split at h
    · cases h
    · cases h; simp; omega
  split at h
  · split at h
    · cases h
    · cases h; simp; omega
  split at h
  · cases h
  split at h
  · cases h; exact h8
  · cases h; exact h8
/-- Where the reader r stands. -/
def plc (r : Nat) (w : World) : Nat := ((w.cell? ⟨r, 1, none⟩).map fun x => (intOf x).toNat).getD 0
theorem plc_of {w0 w : World} {r : Nat} {v : Value} {place : Nat} {op : List Nat} (h : RS w0 w r v place op) : plc r w = place := by
  unfold plc
  rw [h.cells.2.1]
  simp [intOf]
theorem RS.grown {w0 w w' : World} {r n : Nat} {v : Value} {place : Nat} {op : List Nat} {o : Value} {xs : List Value} (h : RS w0 w r v place op) (ho : w.ownsRow w0.heap.size 41 4 o n xs) (hg : w.grownBy w' o.ownBlock) : RS w0 w' r v place op := by
  obtain ⟨ov, h1, h2, h3, h4⟩ := h
  exact ⟨ov, h1.grown hg (own_type ho h1 (by decide)), own_grown h2 ho hg (by decide), h3, h4.grown hg h4.size (fun k hk => (ho.lt k hk).1)⟩
def LRel (w : World) (l : List Nat) (v : Value) (r : Nat) (o : Value) (wr : World) : Prop :=
  ∃ s : St, RS w wr r v s.place s.op ∧ wr.ownsRow w.heap.size 41 4 o s.out.length (fcs s.out) ∧ s.place ≤ l.length ∧ s.op.length ≤ 8 ∧ s.out.length ≤ 256 ∧ Leads l ⟨0, [], []⟩ s
set_option maxHeartbeats 2000000 in
set_option maxRecDepth 100000 in
theorem of_any (v : Value) (l : List Nat) (w : World) (hS : Src w v l) (h : ∀ x ∈ l, x < 256) (hl : l.length ≤ 140737488355328) : Calls Try.prog 20 #[v] w (OfPost (ofR l) w) := by
  have hS' := Lib.hid hS
  obtain ⟨aa, cap, rfl, hcl, hcm, hcn, -⟩ := hS
  by_cases h4 : 4096 < l.length
  · have hR : ofR l = ([], 3) := by unfold ofR; rw [if_pos h4]
    have h4' : 4096 < (l.length : Int) := by omega
    replace hR := Lib.hid hR
    replace h := Lib.hid h
    go_enter Try.func20, Try.ntmps20
    go_wp2
    go_ret2
    exact ⟨_, by rw [hR.out]; rfl, by rw [hR.out]; exact fds_nil _, Below.refl _ _⟩
  have h4' : (l.length : Int) ≤ 4096 := by omega
  obtain ⟨i0, hi, hz0, hz1, hz2⟩ := info_parts Try.info41
  replace hi := Lib.hid hi
  replace hz0 := Lib.hid hz0
  replace hz1 := Lib.hid hz1
  replace hz2 := Lib.hid hz2
  have hst := Lib.hid fun (s s' : St) (hs : s.place < l.length) (he : stepF l s = .ok s') => And.intro (stepF_spec h (by omega) he) (Leads.step h hs he)
  have NX := Lib.hid fun (k : Nat) (op : List Nat) (wr : World) (hk : k ≤ l.length) (hop8 : op.length ≤ 8) (hR : RS w wr w.heap.size (.slice aa l.length cap) k op) => next_any (.slice aa l.length cap) l k w.heap.size op w wr hS'.out h hl hk hop8 hR
  replace h := Lib.hid h
  have k0 := Blk.new w 74 #[.slice aa l.length cap, .int .i64 0, .slice none 0 0]
  have R0 : RS w (w.alloc (.cells #[.slice aa l.length cap, .int .i64 0, .slice none 0 0] 74)) w.heap.size (.slice aa l.length cap) 0 [] := ⟨_, k0, ⟨rfl, .inl ⟨rfl, rfl⟩⟩, Nat.le_refl _, ext_alloc _ _⟩
  replace R0 := Lib.hid R0
  clear k0
  go_enter Try.func20, Try.ntmps20
  go_wp2
  go_loopw [4] (fun o wr => LRel w l (.slice aa l.length cap) w.heap.size o wr) (fun _ wr => l.length - plc w.heap.size wr)
  case atStart => exact ⟨⟨0, [], []⟩, R0.out, ⟨rfl, .inl ⟨rfl, rfl⟩⟩, by simp, by simp, by simp, Leads.refl _ _⟩
  case round =>
    obtain ⟨s, hRS, hout, hpl, hop8, hout256, hld⟩ := hrel
    obtain ⟨n, hn, hR⟩ := of_at (by omega) hld
    have hpc := plc_of hRS
    obtain ⟨ov, hB, hown, hrest⟩ := id hRS
    obtain ⟨ap, cp, rfl⟩ := own_slice hown
    have c0 : wr.cell? ⟨w.heap.size, 0, none⟩ = some (.slice aa l.length cap) := hB.cell 0
    have c1 : wr.cell? ⟨w.heap.size, 1, none⟩ = some (.int .i64 (s.place : Nat)) := hB.cell 1
    have c2 : wr.cell? ⟨w.heap.size, 2, none⟩ = some (.slice ap s.op.length cp) := hB.cell 2
    replace hRS := Lib.hid hRS
    replace hout := Lib.hid hout
    replace hld := Lib.hid hld
    replace hpc := Lib.hid hpc
    clear hB hown hrest
    obtain ⟨ao, co, rfl⟩ := own_slice hout.out
    by_cases hend : l.length ≤ s.place
    · rw [ofF_end hn hend] at hR
      have hp : (s.place : Int) = l.length := by omega
      by_cases h0 : s.op = []
      · rw [if_pos h0] at hR
        have hl0 : s.op.length = 0 := by rw [h0]; rfl
        replace h0 := Lib.hid h0
        replace hR := Lib.hid hR
        go_wp2
        go_ret2
        exact ⟨_, by rw [hR.out]; rfl, by rw [hR.out]; exact FdsAt.of_own hout.out (by simp; omega), hRS.out.below⟩
      · rw [if_neg h0] at hR
        have hl0 : (0 : Int) < s.op.length := by have := List.length_pos_iff.2 h0; omega
        replace h0 := Lib.hid h0
        replace hR := Lib.hid hR
        go_wp2
        go_ret2
        exact ⟨_, by rw [hR.out]; rfl, by rw [hR.out]; exact fds_nil _, hRS.out.below⟩
    have hlt : (s.place : Int) < l.length := by omega
    have hplt : s.place < l.length := by omega
    have hbad := Lib.hid fun (e : Nat) (he : stepF l s = .error e) => hR.trans (ofF_bad hn hplt he)
    clear hn hR
    go_wp2_with fail
    refine (NX.out s.place s.op wr (by omega) hop8 hRS.out).mono ?_
    rintro e w1 ⟨K1, ⟨E, f, told, hN, rfl, b1⟩ | ⟨p, op', f, hN, rfl, R1⟩ | ⟨p, op', F, hN, rfl, R1⟩⟩
    · have hE := hbad.out E (by rw [step_next, hN])
      have hE0 := nextF_err hN
      have hE0' : ((E : Int) != 0) = true := by simpa using hE0
      replace hE0 := Lib.hid hE0
      replace hN := Lib.hid hN
      replace hE := Lib.hid hE
      replace b1 := Lib.hid b1
      replace K1 := Lib.hid K1
      obtain ⟨fn, fk, fv, ft⟩ := f
      simp only [Fd.cells]
      clear c0 c1 c2
      go_wp2_with fail
      go_ret2
      exact ⟨_, by rw [hE.out]; rfl, by rw [hE.out]; exact fds_nil _, ext_trans b1.out (ext_alloc _ _)⟩
    · have hs' : stepF l s = .ok ⟨p, op', s.out⟩ := by rw [step_next, hN]
      obtain ⟨⟨hp1, hp2⟩, hl2⟩ := hst.out _ _ hplt hs'
      have hop' := nextF_op hN hop8
      replace hN := Lib.hid hN
      replace hs' := Lib.hid hs'
      replace hp1 := Lib.hid hp1
      replace hp2 := Lib.hid hp2
      replace hl2 := Lib.hid hl2
      have own1 := Lib.hid (K1.own hout.out (by decide) (by decide))
      replace K1 := Lib.hid K1
      replace R1 := Lib.hid R1
      obtain ⟨fn, fk, fv, ft⟩ := f
      simp only [Fd.cells]
      clear c0 c1 c2
      go_wp2_with fail
      go_roundw
      case rel => exact ⟨⟨p, op', s.out⟩, R1.out.ext (ext_alloc _ _), own1.out.alloc _, hp2.out, hop', hout256, hld.out.trans hl2.out⟩
      case measure =>
        rw [hpc.out, plc_of (R1.out.ext (ext_alloc w1 _))]
        have := hp1.out
        simp at this
        omega
    · have own1 := Lib.hid (K1.own hout.out (by decide) (by decide))
      have zr := R1.below.size
      have hop' := nextF_op hN hop8
      replace K1 := Lib.hid K1
      replace R1 := Lib.hid R1
      obtain ⟨fn, fk, fv, ft⟩ := F
      by_cases c6 : 256 ≤ s.out.length
      · have hs' : stepF l s = .error 6 := by rw [step_next, hN]; simp [c6]
        have hE := hbad.out 6 hs'
        replace hE := Lib.hid hE
        replace hN := Lib.hid hN
        replace hs' := Lib.hid hs'
        have c6' : (s.out.length : Int) = 256 := by omega
        replace c6 := Lib.hid c6
        simp only [Fd.cells]
        clear c0 c1 c2
        go_wp2_with fail
        go_ret2
        exact ⟨_, by rw [hE.out]; rfl, by rw [hE.out]; exact fds_nil _, ext_trans R1.out.below (ext_alloc _ _)⟩
      · have hs' : stepF l s = .ok ⟨p, op', s.out ++ [⟨fn, fk, fv, ft⟩]⟩ := by rw [step_next, hN]; simp [c6]
        obtain ⟨⟨hp1, hp2⟩, hl2⟩ := hst.out _ _ hplt hs'
        replace hN := Lib.hid hN
        replace hs' := Lib.hid hs'
        replace hp1 := Lib.hid hp1
        replace hp2 := Lib.hid hp2
        replace hl2 := Lib.hid hl2
        have c6' : (s.out.length : Int) < 256 := by omega
        replace c6 := Lib.hid c6
        simp only [Fd.cells]
        clear c0 c1 c2
        go_wp2_with (at_builtin; go_must (refine wpList_append_own_at _ rfl (.tmp 32) (.tmp 34) 39 rfl w.heap.size 41 i0 _ 4 40 Try.underlying39 hi.out hz0.out hz1.out hz2.out rfl (by decide) _ s.out.length (fcs s.out) rfl ((own1.out.alloc _).alloc _) ⟨w1.heap.size + 1, 0, none⟩ 1 1 [.int .i64 fn, .int .i64 fk, .int .u64 (fv : Nat), .string ft] rfl rfl (cell_four_new _ _ _ _ _ _ (by simp)) (by intro u hu; simp at hu; rcases hu with rfl | rfl | rfl | rfl <;> rfl) (by unfold maxLen; omega) (by omega) (by simp; omega) ?_); intro v2 w2 o2 gr2 n2 nb2)
        go_roundw
        case rel =>
          have R2 := ((R1.out.ext (ext_alloc w1 _)).ext (ext_alloc _ _)).grown ((own1.out.alloc _).alloc _) gr2
          refine ⟨⟨p, op', s.out ++ [⟨fn, fk, fv, ft⟩]⟩, R2, ?_, hp2.out, hop', by simp; omega, hld.out.trans hl2.out⟩
          rw [fcs_snoc, List.length_append, List.length_singleton]
          exact o2
        case measure =>
          have R2 := ((R1.out.ext (ext_alloc w1 _)).ext (ext_alloc _ _)).grown ((own1.out.alloc _).alloc _) gr2
          rw [hpc.out, plc_of R2]
          have := hp1.out
          simp at this
          omega
end Go.Proofs.Ytoglgdkeknojkaa

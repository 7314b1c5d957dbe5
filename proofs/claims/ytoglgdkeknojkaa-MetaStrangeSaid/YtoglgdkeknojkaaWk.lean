/-
  LAYER 3: the program's reader: next.
-/
import Derived.Test.YtoglgdkeknojkaaWj
namespace Go.Proofs.Ytoglgdkeknojkaa
open Go.RowKit

def nextF (l : List Nat) (k : Nat) (op : List Nat) : Except Nat (Nat × List Nat × Option Fd) :=
  if gE l k ≠ 0 then .error (gE l k)
  else if gN l k / 8 < 1 ∨ 536870912 ≤ gN l k / 8 then .error 5
  else if gN l k % 8 = 3 then (if 8 ≤ op.length then .error 12 else .ok (gAt l k, op ++ [gN l k / 8], none))
  else if gN l k % 8 = 4 then (if op.getLast? ≠ some (gN l k / 8) then .error 4 else .ok (gAt l k, op.dropLast, none))
  else if vE l (gAt l k) (gN l k % 8) ≠ 0 then .error (vE l (gAt l k) (gN l k % 8))
  else if op ≠ [] then .ok (vA l (gAt l k) (gN l k % 8), op, none)
  else .ok (vA l (gAt l k) (gN l k % 8), op, some (vF l (gAt l k) (gN l k / 8) (gN l k % 8)))
theorem nextF_err {l : List Nat} {k E : Nat} {op : List Nat} (h : nextF l k op = .error E) : E ≠ 0 := by
  unfold nextF at h
  split at h
  · cases h; assumption
  split at h
  · cases h; decide
  split at h
  · split at h
    · cases h; decide
    · cases h
  split at h
  · split at h
    · cases h; decide
    · cases h
  split at h
  · cases h; assumption
  split at h <;> cases h
theorem step_next (l : List Nat) (s : St) : stepF l s = match nextF l s.place s.op with
    | .error e => .error e
    | .ok (p, op', none) => .ok ⟨p, op', s.out⟩
    | .ok (p, op', some F) => if 256 ≤ s.out.length then .error 6 else .ok ⟨p, op', s.out ++ [F]⟩ := by
  unfold stepF nextF
  split
  · rfl
  split
  · rfl
  split
  · split <;> rfl
  split
  · split <;> rfl
  split
  · rfl
  split <;> rfl
def NextPost (l : List Nat) (w0 : World) (r : Nat) (v : Value) (k : Nat) (op : List Nat) (w : World) (e : Ending) (w' : World) : Prop :=
  KeepT w w' ∧ ((∃ E f told, nextF l k op = .error E ∧ e = .returned (.tuple #[.agg (Fd.cells f).toArray, .bool told, .int .i64 (E : Nat)]) ∧ Below w0.heap.size w0 w') ∨
    (∃ p op' f, nextF l k op = .ok (p, op', none) ∧ e = .returned (.tuple #[.agg (Fd.cells f).toArray, .bool false, .int .i64 0]) ∧ RS w0 w' r v p op') ∨
    (∃ p op' F, nextF l k op = .ok (p, op', some F) ∧ e = .returned (.tuple #[.agg (Fd.cells F).toArray, .bool true, .int .i64 0]) ∧ RS w0 w' r v p op'))
theorem Blk.set4 {w : World} {g : Nat} {t : TypeId} {a b c d a' b' c' d' : Value} (h : Blk w g t #[a', b', c', d']) : Blk ((((w.setCell ⟨g, 0, none⟩ a).setCell ⟨g, 1, none⟩ b).setCell ⟨g, 2, none⟩ c).setCell ⟨g, 3, none⟩ d) g t #[a, b, c, d] := by
  simpa using (((h.set 0 a).set 1 b).set 2 c).set 3 d
theorem KeepT.far {w w' : World} (h : KeepT w w') {p : Addr} (hp : w.heap.size ≤ p.block) (u : Value) : KeepT w (w'.setCell p u) := fun g t cs h1 h2 hb => (h g t cs h1 h2 hb).far (by have := hb.lt; omega) u
theorem KeepT.far4 {w w' : World} (h : KeepT w w') {g : Nat} (hg : w.heap.size ≤ g) (a b c d : Value) : KeepT w ((((w'.setCell ⟨g, 0, none⟩ a).setCell ⟨g, 1, none⟩ b).setCell ⟨g, 2, none⟩ c).setCell ⟨g, 3, none⟩ d) :=
  (((h.far (p := ⟨g, 0, none⟩) hg a).far (p := ⟨g, 1, none⟩) hg b).far (p := ⟨g, 2, none⟩) hg c).far (p := ⟨g, 3, none⟩) hg d
theorem RS.far {w0 w : World} {r : Nat} {v : Value} {place : Nat} {op : List Nat} (h : RS w0 w r v place op) {g : Nat} {cs : Array Value} (hb : Blk w g 41 cs) (hg : w0.heap.size ≤ g) (i : Nat) (u : Value) : RS w0 (w.setCell ⟨g, i, none⟩ u) r v place op := by
  obtain ⟨ov, h1, h2, h3, h4⟩ := h
  refine ⟨ov, h1.far (fun e => ?_) u, h2.kept (gset w g i u) (.inr fun e => own_type h2 hb (by decide) e.symm), h3, h4.setCell hg _⟩
  simp only at e
  subst e
  unfold Blk at h1 hb
  rw [h1] at hb
  simp only [Option.some.injEq, Obj.cells.injEq] at hb
  exact absurd hb.2.1 (by decide)
theorem RS.far4 {w0 w : World} {r : Nat} {v : Value} {place : Nat} {op : List Nat} (h : RS w0 w r v place op) {g : Nat} {cs : Array Value} (hb : Blk w g 41 cs) (hg : w0.heap.size ≤ g) (a b c d : Value) :
    RS w0 ((((w.setCell ⟨g, 0, none⟩ a).setCell ⟨g, 1, none⟩ b).setCell ⟨g, 2, none⟩ c).setCell ⟨g, 3, none⟩ d) r v place op :=
  (((h.far hb hg 0 a).far (hb.set 0 a) hg 1 b).far ((hb.set 0 a).set 1 b) hg 2 c).far (((hb.set 0 a).set 1 b).set 2 c) hg 3 d
theorem ret24 {Q : Ending → World → Prop} {a : Act} {w : World} {g : Nat} {f : Fd} {told : Bool} {E : Int} (h2 : a.tmps[2]? = some (.pointer (some ⟨g, 0, none⟩))) (h3 : a.tmps[3]? = some (.bool told)) (h4 : a.tmps[4]? = some (.int .i64 E)) (hd : a.defers = [])
    (hb : Blk w g 41 f.cells.toArray) (hQ : Q (.returned (.tuple #[.agg f.cells.toArray, .bool told, .int .i64 E])) w) : bodyPost Try.prog Try.f39 Q Exit.ret a w := by
  obtain ⟨c0, c1, c2, c3⟩ := blk4 hb
  refine bodyPost_ret (v := .tuple #[.agg f.cells.toArray, .bool told, .int .i64 E]) ?_ hd hQ
  simp [results, Try.results39, go_sem, h2, h3, h4, c0, c1, c2, c3, Fd.cells]
set_option maxHeartbeats 1000000 in
set_option maxRecDepth 100000 in
theorem next_num (v : Value) (l : List Nat) (k r : Nat) (op : List Nat) (w0 w : World) (hS : Src w0 v l) (h : ∀ x ∈ l, x < 256) (hl : l.length ≤ 140737488355328) (hk : k ≤ l.length) (hR : RS w0 w r v k op)
    (hbad : gE l k ≠ 0 ∨ (gE l k = 0 ∧ (gN l k / 8 < 1 ∨ 536870912 ≤ gN l k / 8))) :
    Calls Try.prog 39 #[.pointer (some ⟨r, 0, none⟩)] w (NextPost l w0 r v k op w) := by
  have N := Lib.hid (num_any v l k r op w0 (w.alloc (.cells #[.int .i64 0, .int .i64 0, .int .u64 0, .string ⟨#[]⟩] 41)) hS h hl hk (hR.ext (ext_alloc _ _)))
  have K0 := Lib.hid (KeepT.ext (ext_alloc w (.cells #[.int .i64 0, .int .i64 0, .int .u64 0, .string ⟨#[]⟩] 41)))
  have hk0 := Lib.hid (Blk.new w 41 #[.int .i64 0, .int .i64 0, .int .u64 0, .string ⟨#[]⟩])
  have hgs := g_spec l k h hk
  replace h := Lib.hid h
  replace hR := Lib.hid hR
  replace hbad := Lib.hid hbad
  go_enter Try.func39, Try.ntmps39
  go_wp2_with fail
  refine (N.out).mono ?_
  rintro e w1 ⟨⟨h0, rfl, R1⟩ | ⟨h0, rfl, R1⟩, K1⟩
  · have hgs' := hgs
    rw [h0] at hgs'
    obtain ⟨T, hT⟩ : ∃ x, x = gN l k := ⟨_, rfl⟩
    obtain ⟨D, hD⟩ : ∃ x, x = T / 8 := ⟨_, rfl⟩
    obtain ⟨M, hM⟩ : ∃ x, x = T % 8 := ⟨_, rfl⟩
    have hE : nextF l k op = .error 5 := by unfold nextF; rw [if_neg (by omega), if_pos (by have := hbad.out; omega)]
    have hbad' : D < 1 ∨ 536870912 ≤ D := by have := hbad.out; omega
    rw [← hT] at hgs' ⊢
    have g1 : T ≤ 18446744073709551615 := by omega
    have g1' : (T : Int) ≤ 18446744073709551615 := by omega
    clear hgs' hgs
    have kb := K1 _ _ _ (by decide) (by decide) hk0.out
    obtain ⟨c0, c1, c2, c3⟩ := blk4 (f := ⟨0, 0, 0, ⟨#[]⟩⟩) kb
    have f0 := kb.fz 0
    have f1 := kb.fz 1
    have f2 := kb.fz 2
    have f3 := kb.fz 3
    have qD : (T : Int) / 8 = (D : Nat) := by omega
    replace hE := Lib.hid hE
    replace hT := Lib.hid hT
    replace hD := Lib.hid hD
    replace hM := Lib.hid hM
    have zr : w0.heap.size ≤ w.heap.size := by have := hR.out.below.size; omega
    by_cases cD : D < 1
    · have cD' : (D : Int) < 1 := by omega
      replace hbad' := Lib.hid hbad'
      replace cD := Lib.hid cD
      go_wp2_with fail
      refine ret24 (f := ⟨0, 0, 0, ⟨#[]⟩⟩) rfl rfl rfl rfl kb.set4 ?_
      exact ⟨((K0.out.trans K1).far4 (Nat.le_refl _) _ _ _ _), .inl ⟨5, ⟨0, 0, 0, ⟨#[]⟩⟩, false, hE.out, rfl, (R1.far4 kb zr _ _ _ _).below⟩⟩
    · have cD' : (1 : Int) ≤ D := by omega
      have cD2 : (536870911 : Int) < D := by omega
      replace hbad' := Lib.hid hbad'
      replace cD := Lib.hid cD
      go_wp2_with fail
      refine ret24 (f := ⟨0, 0, 0, ⟨#[]⟩⟩) rfl rfl rfl rfl kb.set4 ?_
      exact ⟨((K0.out.trans K1).far4 (Nat.le_refl _) _ _ _ _), .inl ⟨5, ⟨0, 0, 0, ⟨#[]⟩⟩, false, hE.out, rfl, (R1.far4 kb zr _ _ _ _).below⟩⟩
  · have hE : nextF l k op = .error (gE l k) := by unfold nextF; rw [if_pos h0]
    have h0' : ((gE l k : Int) != 0) = true := by simpa using h0
    have kb := K1 _ _ _ (by decide) (by decide) hk0.out
    obtain ⟨c0, c1, c2, c3⟩ := blk4 (f := ⟨0, 0, 0, ⟨#[]⟩⟩) kb
    have f0 := kb.fz 0
    have f1 := kb.fz 1
    have f2 := kb.fz 2
    have f3 := kb.fz 3
    replace hE := Lib.hid hE
    go_wp2_with fail
    refine ret24 (f := ⟨0, 0, 0, ⟨#[]⟩⟩) rfl rfl rfl rfl kb.set4 ?_
    exact ⟨((K0.out.trans K1).far4 (Nat.le_refl _) _ _ _ _), .inl ⟨gE l k, ⟨0, 0, 0, ⟨#[]⟩⟩, false, hE.out, rfl, (R1.far4 kb (by have := hR.out.below.size; omega) _ _ _ _).below⟩⟩
end Go.Proofs.Ytoglgdkeknojkaa

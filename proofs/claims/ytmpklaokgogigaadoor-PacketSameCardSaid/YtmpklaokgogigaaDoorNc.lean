/-
  LAYER 16: Same of any two packets, the document's.
-/
import Derived.Test.YtmpklaokgogigaaDoorNb
namespace Go.Proofs.YtmpklaokgogigaaDoor.Pac
set_option linter.unusedVariables false
set_option linter.unusedSimpArgs false
open Go.Proofs.YtmpklaokgogigaaDoor
open Go.RowKit
set_option maxHeartbeats 4000000 in
set_option maxRecDepth 100000 in
theorem same9_kind (P Q : Pk) (f1 c1 f2 c2 : Value) (w : World) (hf1 : FisAt w f1 P.fl) (hc1 : IntsAt w c1 P.cl) (hf2 : FisAt w f2 Q.fl) (hc2 : IntsAt w c2 Q.cl)  (hx : ¬ P.kind = Q.kind) : Calls Tryd.prog 9 #[.agg (P.v f1 c1), .agg (Q.v f2 c2)] w (IfP (P = Q) w) := by
  have hne : Hid (¬ P = Q) := Lib.hid (fun e => hx (by subst e; rfl))
  obtain ⟨kind, id, dup, t, x, q, r, ⟨x0, x1, x2, x3, x4, x5, x6, x7, x8, x9, x10, x11, x12⟩, pres, code, fl, cl⟩ := P
  obtain ⟨kind', id', dup', t', x', q', r', ⟨y0, y1, y2, y3, y4, y5, y6, y7, y8, y9, y10, y11, y12⟩, pres', code', fl', cl'⟩ := Q
  obtain ⟨a1, p1, rfl, hlen, h1⟩ := hf1
  obtain ⟨a2, p2, rfl, hlen2, h2⟩ := hf2
  obtain ⟨a3, p3, rfl, hlen3, h3⟩ := hc1
  obtain ⟨a4, p4, rfl, hlen4, h4⟩ := hc2
  unfold Pk.v
  simp only at *
  have g1 : (kind == kind') = false := by simpa using hx
  have g2 : (kind != kind') = true := by simpa using hx
  replace hx := Lib.hid hx
  clear h1 h2 h3 h4
  go_enter Tryd.func9, Tryd.ntmps9
  go_wp2_with fail
  go_ret
  exact ⟨false, rfl, ⟨fun h => Bool.noConfusion h, fun e => absurd e hne.out⟩, ((Below.refl _ w).alloc (Nat.le_refl _) _).alloc (by simp) _⟩
set_option maxHeartbeats 4000000 in
set_option maxRecDepth 100000 in
theorem same9_id (P Q : Pk) (f1 c1 f2 c2 : Value) (w : World) (hf1 : FisAt w f1 P.fl) (hc1 : IntsAt w c1 P.cl) (hf2 : FisAt w f2 Q.fl) (hc2 : IntsAt w c2 Q.cl) (e0 : P.kind = Q.kind) (hx : ¬ P.id = Q.id) : Calls Tryd.prog 9 #[.agg (P.v f1 c1), .agg (Q.v f2 c2)] w (IfP (P = Q) w) := by
  have hne : Hid (¬ P = Q) := Lib.hid (fun e => hx (by subst e; rfl))
  obtain ⟨kind, id, dup, t, x, q, r, ⟨x0, x1, x2, x3, x4, x5, x6, x7, x8, x9, x10, x11, x12⟩, pres, code, fl, cl⟩ := P
  obtain ⟨kind', id', dup', t', x', q', r', ⟨y0, y1, y2, y3, y4, y5, y6, y7, y8, y9, y10, y11, y12⟩, pres', code', fl', cl'⟩ := Q
  obtain ⟨a1, p1, rfl, hlen, h1⟩ := hf1
  obtain ⟨a2, p2, rfl, hlen2, h2⟩ := hf2
  obtain ⟨a3, p3, rfl, hlen3, h3⟩ := hc1
  obtain ⟨a4, p4, rfl, hlen4, h4⟩ := hc2
  unfold Pk.v
  simp only at *
  subst e0
  have g1 : (id == id') = false := by simpa using hx
  have g2 : (id != id') = true := by simpa using hx
  replace hx := Lib.hid hx
  clear h1 h2 h3 h4
  go_enter Tryd.func9, Tryd.ntmps9
  go_wp2_with fail
  go_ret
  exact ⟨false, rfl, ⟨fun h => Bool.noConfusion h, fun e => absurd e hne.out⟩, ((Below.refl _ w).alloc (Nat.le_refl _) _).alloc (by simp) _⟩
set_option maxHeartbeats 4000000 in
set_option maxRecDepth 100000 in
theorem same9_dup (P Q : Pk) (f1 c1 f2 c2 : Value) (w : World) (hf1 : FisAt w f1 P.fl) (hc1 : IntsAt w c1 P.cl) (hf2 : FisAt w f2 Q.fl) (hc2 : IntsAt w c2 Q.cl) (e0 : P.kind = Q.kind) (e1 : P.id = Q.id) (hx : ¬ P.dup = Q.dup) : Calls Tryd.prog 9 #[.agg (P.v f1 c1), .agg (Q.v f2 c2)] w (IfP (P = Q) w) := by
  have hne : Hid (¬ P = Q) := Lib.hid (fun e => hx (by subst e; rfl))
  obtain ⟨kind, id, dup, t, x, q, r, ⟨x0, x1, x2, x3, x4, x5, x6, x7, x8, x9, x10, x11, x12⟩, pres, code, fl, cl⟩ := P
  obtain ⟨kind', id', dup', t', x', q', r', ⟨y0, y1, y2, y3, y4, y5, y6, y7, y8, y9, y10, y11, y12⟩, pres', code', fl', cl'⟩ := Q
  obtain ⟨a1, p1, rfl, hlen, h1⟩ := hf1
  obtain ⟨a2, p2, rfl, hlen2, h2⟩ := hf2
  obtain ⟨a3, p3, rfl, hlen3, h3⟩ := hc1
  obtain ⟨a4, p4, rfl, hlen4, h4⟩ := hc2
  unfold Pk.v
  simp only at *
  subst e0
  subst e1
  have g1 : (dup == dup') = false := by simpa using hx
  have g2 : (dup != dup') = true := by simpa using hx
  replace hx := Lib.hid hx
  clear h1 h2 h3 h4
  go_enter Tryd.func9, Tryd.ntmps9
  go_wp2_with fail
  go_ret
  exact ⟨false, rfl, ⟨fun h => Bool.noConfusion h, fun e => absurd e hne.out⟩, ((Below.refl _ w).alloc (Nat.le_refl _) _).alloc (by simp) _⟩
set_option maxHeartbeats 4000000 in
set_option maxRecDepth 100000 in
theorem same9_M (P Q : Pk) (f1 c1 f2 c2 : Value) (w : World) (hf1 : FisAt w f1 P.fl) (hc1 : IntsAt w c1 P.cl) (hf2 : FisAt w f2 Q.fl) (hc2 : IntsAt w c2 Q.cl) (e0 : P.kind = Q.kind) (e1 : P.id = Q.id) (e2 : P.dup = Q.dup) (hx : ¬ (P.t = Q.t ∧ P.x = Q.x ∧ P.q = Q.q ∧ P.r = Q.r)) : Calls Tryd.prog 9 #[.agg (P.v f1 c1), .agg (Q.v f2 c2)] w (IfP (P = Q) w) := by
  have hne : Hid (¬ P = Q) := Lib.hid (fun e => hx (by subst e; exact ⟨rfl, rfl, rfl, rfl⟩))
  obtain ⟨kind, id, dup, t, x, q, r, ⟨x0, x1, x2, x3, x4, x5, x6, x7, x8, x9, x10, x11, x12⟩, pres, code, fl, cl⟩ := P
  obtain ⟨kind', id', dup', t', x', q', r', ⟨y0, y1, y2, y3, y4, y5, y6, y7, y8, y9, y10, y11, y12⟩, pres', code', fl', cl'⟩ := Q
  obtain ⟨a1, p1, rfl, hlen, h1⟩ := hf1
  obtain ⟨a2, p2, rfl, hlen2, h2⟩ := hf2
  obtain ⟨a3, p3, rfl, hlen3, h3⟩ := hc1
  obtain ⟨a4, p4, rfl, hlen4, h4⟩ := hc2
  unfold Pk.v
  simp only at *
  subst e0
  subst e1
  subst e2
  have g1 := fun W => (m_ne t x q r t' x' q' r' hx W).1
  have g2 := fun W => (m_ne t x q r t' x' q' r' hx W).2
  replace hx := Lib.hid hx
  clear h1 h2 h3 h4
  go_enter Tryd.func9, Tryd.ntmps9
  go_wp2_with fail
  go_ret
  exact ⟨false, rfl, ⟨fun h => Bool.noConfusion h, fun e => absurd e hne.out⟩, ((Below.refl _ w).alloc (Nat.le_refl _) _).alloc (by simp) _⟩
set_option maxHeartbeats 4000000 in
set_option maxRecDepth 100000 in
theorem same9_C (P Q : Pk) (f1 c1 f2 c2 : Value) (w : World) (hf1 : FisAt w f1 P.fl) (hc1 : IntsAt w c1 P.cl) (hf2 : FisAt w f2 Q.fl) (hc2 : IntsAt w c2 Q.cl) (e0 : P.kind = Q.kind) (e1 : P.id = Q.id) (e2 : P.dup = Q.dup) (e3 : (P.t = Q.t ∧ P.x = Q.x ∧ P.q = Q.q ∧ P.r = Q.r)) (hx : ¬ P.c = Q.c) : Calls Tryd.prog 9 #[.agg (P.v f1 c1), .agg (Q.v f2 c2)] w (IfP (P = Q) w) := by
  have hne : Hid (¬ P = Q) := Lib.hid (fun e => hx (by subst e; rfl))
  have NE := c_ne P.c Q.c hx
  obtain ⟨kind, id, dup, t, x, q, r, ⟨x0, x1, x2, x3, x4, x5, x6, x7, x8, x9, x10, x11, x12⟩, pres, code, fl, cl⟩ := P
  obtain ⟨kind', id', dup', t', x', q', r', ⟨y0, y1, y2, y3, y4, y5, y6, y7, y8, y9, y10, y11, y12⟩, pres', code', fl', cl'⟩ := Q
  obtain ⟨a1, p1, rfl, hlen, h1⟩ := hf1
  obtain ⟨a2, p2, rfl, hlen2, h2⟩ := hf2
  obtain ⟨a3, p3, rfl, hlen3, h3⟩ := hc1
  obtain ⟨a4, p4, rfl, hlen4, h4⟩ := hc2
  unfold Pk.v
  simp only at *
  subst e0
  subst e1
  subst e2
  obtain ⟨rfl, rfl, rfl, rfl⟩ := e3
  unfold Con.Con.v at NE
  simp only at NE
  have g1 := fun W => (NE W).1
  have g2 := fun W => (NE W).2
  clear NE
  replace hx := Lib.hid hx
  clear h1 h2 h3 h4
  go_enter Tryd.func9, Tryd.ntmps9
  go_wp2_with fail
  go_ret
  exact ⟨false, rfl, ⟨fun h => Bool.noConfusion h, fun e => absurd e hne.out⟩, ((Below.refl _ w).alloc (Nat.le_refl _) _).alloc (by simp) _⟩
set_option maxHeartbeats 4000000 in
set_option maxRecDepth 100000 in
theorem same9_pres (P Q : Pk) (f1 c1 f2 c2 : Value) (w : World) (hf1 : FisAt w f1 P.fl) (hc1 : IntsAt w c1 P.cl) (hf2 : FisAt w f2 Q.fl) (hc2 : IntsAt w c2 Q.cl) (e0 : P.kind = Q.kind) (e1 : P.id = Q.id) (e2 : P.dup = Q.dup) (e3 : (P.t = Q.t ∧ P.x = Q.x ∧ P.q = Q.q ∧ P.r = Q.r)) (e4 : P.c = Q.c) (hx : ¬ P.pres = Q.pres) : Calls Tryd.prog 9 #[.agg (P.v f1 c1), .agg (Q.v f2 c2)] w (IfP (P = Q) w) := by
  have hne : Hid (¬ P = Q) := Lib.hid (fun e => hx (by subst e; rfl))
  obtain ⟨kind, id, dup, t, x, q, r, ⟨x0, x1, x2, x3, x4, x5, x6, x7, x8, x9, x10, x11, x12⟩, pres, code, fl, cl⟩ := P
  obtain ⟨kind', id', dup', t', x', q', r', ⟨y0, y1, y2, y3, y4, y5, y6, y7, y8, y9, y10, y11, y12⟩, pres', code', fl', cl'⟩ := Q
  obtain ⟨a1, p1, rfl, hlen, h1⟩ := hf1
  obtain ⟨a2, p2, rfl, hlen2, h2⟩ := hf2
  obtain ⟨a3, p3, rfl, hlen3, h3⟩ := hc1
  obtain ⟨a4, p4, rfl, hlen4, h4⟩ := hc2
  unfold Pk.v
  simp only at *
  subst e0
  subst e1
  subst e2
  obtain ⟨rfl, rfl, rfl, rfl⟩ := e3
  simp only [Con.Con.mk.injEq] at e4
  obtain ⟨rfl, rfl, rfl, rfl, rfl, rfl, rfl, rfl, rfl, rfl, rfl, rfl, rfl⟩ := e4
  have g1 : (pres == pres') = false := by simpa using hx
  have g2 : (pres != pres') = true := by simpa using hx
  replace hx := Lib.hid hx
  clear h1 h2 h3 h4
  go_enter Tryd.func9, Tryd.ntmps9
  go_wp2_with fail
  go_ret
  exact ⟨false, rfl, ⟨fun h => Bool.noConfusion h, fun e => absurd e hne.out⟩, ((Below.refl _ w).alloc (Nat.le_refl _) _).alloc (by simp) _⟩
set_option maxHeartbeats 4000000 in
set_option maxRecDepth 100000 in
theorem same9_code (P Q : Pk) (f1 c1 f2 c2 : Value) (w : World) (hf1 : FisAt w f1 P.fl) (hc1 : IntsAt w c1 P.cl) (hf2 : FisAt w f2 Q.fl) (hc2 : IntsAt w c2 Q.cl) (e0 : P.kind = Q.kind) (e1 : P.id = Q.id) (e2 : P.dup = Q.dup) (e3 : (P.t = Q.t ∧ P.x = Q.x ∧ P.q = Q.q ∧ P.r = Q.r)) (e4 : P.c = Q.c) (e5 : P.pres = Q.pres) (hx : ¬ P.code = Q.code) : Calls Tryd.prog 9 #[.agg (P.v f1 c1), .agg (Q.v f2 c2)] w (IfP (P = Q) w) := by
  have hne : Hid (¬ P = Q) := Lib.hid (fun e => hx (by subst e; rfl))
  obtain ⟨kind, id, dup, t, x, q, r, ⟨x0, x1, x2, x3, x4, x5, x6, x7, x8, x9, x10, x11, x12⟩, pres, code, fl, cl⟩ := P
  obtain ⟨kind', id', dup', t', x', q', r', ⟨y0, y1, y2, y3, y4, y5, y6, y7, y8, y9, y10, y11, y12⟩, pres', code', fl', cl'⟩ := Q
  obtain ⟨a1, p1, rfl, hlen, h1⟩ := hf1
  obtain ⟨a2, p2, rfl, hlen2, h2⟩ := hf2
  obtain ⟨a3, p3, rfl, hlen3, h3⟩ := hc1
  obtain ⟨a4, p4, rfl, hlen4, h4⟩ := hc2
  unfold Pk.v
  simp only at *
  subst e0
  subst e1
  subst e2
  obtain ⟨rfl, rfl, rfl, rfl⟩ := e3
  simp only [Con.Con.mk.injEq] at e4
  obtain ⟨rfl, rfl, rfl, rfl, rfl, rfl, rfl, rfl, rfl, rfl, rfl, rfl, rfl⟩ := e4
  subst e5
  have g1 : (code == code') = false := by simpa using hx
  have g2 : (code != code') = true := by simpa using hx
  replace hx := Lib.hid hx
  clear h1 h2 h3 h4
  go_enter Tryd.func9, Tryd.ntmps9
  go_wp2_with fail
  go_ret
  exact ⟨false, rfl, ⟨fun h => Bool.noConfusion h, fun e => absurd e hne.out⟩, ((Below.refl _ w).alloc (Nat.le_refl _) _).alloc (by simp) _⟩
end Go.Proofs.YtmpklaokgogigaaDoor.Pac

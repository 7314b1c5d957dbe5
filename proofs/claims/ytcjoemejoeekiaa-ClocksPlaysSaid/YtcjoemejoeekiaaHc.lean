/-
  THE HEAP'S up, down, Fix over any state that answers Len, Less and Swap.
-/
import Derived.Test.YtcjoemejoeekiaaHb
import Derived.Test.YtcjoemejoeekiaaCom
import Derived.Test.YtcjoemejoeekiaaRows
import Derived.WalkKit
namespace Go.Proofs.Ytcjoemejoeekiaa.Hg
open Go.RowKit Hp
/-- What answers the heap's questions: I tells the elements, R what may have changed. -/
structure HS {E : Type} (key : E → Int) (I : List E → World → Prop) (R : World → World → Prop) (dt : TypeId) (pv rv : Value) : Prop where
  rr : ∀ w, R w w
  rt : ∀ {a b c}, R a b → R b c → R a c
  mlen : ∀ {G w}, I G w → (method 241 dt pv "Len").run Try.prog w = .ok (86, rv) w
  mless : ∀ {G w}, I G w → (method 241 dt pv "Less").run Try.prog w = .ok (87, rv) w
  mswap : ∀ {G w}, I G w → (method 241 dt pv "Swap").run Try.prog w = .ok (90, rv) w
  len : ∀ {G w}, I G w → Calls Try.prog 86 #[rv] w fun e w' => e = .returned (.int .i64 (G.length : Nat)) ∧ w = w'
  less : ∀ {G w} {i j : Nat}, I G w → i < G.length → j < G.length → Calls Try.prog 87 #[rv, .int .i64 i, .int .i64 j] w fun e w' => e = .returned (.bool (decide (at' (G.map key) i < at' (G.map key) j))) ∧ I G w' ∧ R w w'
  swap : ∀ {G w} {i j : Nat}, I G w → i < G.length → j < G.length → i ≠ j → Calls Try.prog 90 #[rv, .int .i64 i, .int .i64 j] w fun e w' => e = .returned (.tuple #[]) ∧ I (sx G i j) w' ∧ R w w'
/-- The order has changed. -/
def Mvd {E : Type} (key : E → Int) (I : List E → World → Prop) (R : World → World → Prop) (w : World) (G : List E) (n : Nat) (w' : World) : Prop :=
  ∃ G' : List E, G'.Perm G ∧ HeapP (G'.map key) n ∧ (∀ i, n ≤ i → G'[i]? = G[i]?) ∧ I G' w' ∧ R w w'
section
variable {E : Type} {key : E → Int} {I : List E → World → Prop} {R : World → World → Prop} {dt : TypeId} {pv rv : Value} {w : World} {G : List E}
set_option maxHeartbeats 4000000 in
set_option maxRecDepth 100000 in
theorem up_any (hs : HS key I R dt pv rv) (h : I G w) {n j : Nat} (hn : n ≤ G.length) (U : Up (G.map key) n j) (hH : G.length ≤ 1000) :
    Calls Try.prog 59 #[.iface dt pv, .int .i64 j] w fun e w' => e = .returned (.tuple #[]) ∧ Mvd key I R w G n w' := by
  go_enter Try.func59, Try.ntmps59
  go_wp2_with fail
  go_loopw [1] (fun jv wr => ∃ (j : Nat) (G' : List E), jv = .int .i64 (j : Int) ∧ G'.Perm G ∧ Up (G'.map key) n j ∧ (∀ i, n ≤ i → G'[i]? = G[i]?) ∧ I G' wr ∧ R w wr) (fun jv _ => (intOf jv).toNat)
  case atStart => exact ⟨j, G, rfl, List.Perm.refl _, U, fun _ _ => rfl, h, hs.rr w⟩
  case round =>
    obtain ⟨j, G', rfl, hp, hu, hk, hi, hf⟩ := hrel
    have hlen := hp.length_eq
    have RR : Hid (∀ W, R wr W → I G' W → HeapP (G'.map key) n → Mvd key I R w G n W) := Lib.hid fun W hW hI hh => ⟨G', hp, hh, hk, hI, hs.rt hf hW⟩
    by_cases hj0 : j = 0
    · subst hj0
      have RR2 := Lib.hid (RR.out wr (hs.rr wr) hi (hu.done (.inl rfl)))
      clear hp hu hi hf RR hlen hk h U
      go_wp2_with fail
      go_end0
      exact ⟨rfl, RR2.out⟩
    · have j1 : (1 : Int) ≤ (j : Int) := by omega
      have hjn := hu.jn
      have j2 : (j : Int) ≤ 100000 := by omega
      obtain ⟨p, hpe⟩ : ∃ p : Nat, p = (j - 1) / 2 := ⟨_, rfl⟩
      have hq : ((j : Int) - 1) / 2 = (p : Int) := by omega
      have hpj : ((p : Int) == (j : Int)) = false := by simp; omega
      have hpn : p < n := by omega
      have kl := hs.mless hi
      have LS := Lib.hid (hs.less hi (i := j) (j := p) (by omega) (by omega))
      have SW : Hid (∀ W, I G' W → Calls Try.prog 90 #[rv, .int .i64 p, .int .i64 j] W fun e w' => e = .returned (.tuple #[]) ∧ I (sx G' p j) w' ∧ R W w') := Lib.hid fun W hW => hs.swap hW (by omega) (by omega) (by omega)
      have hpm := Lib.hid ((sx_perm G' p j).trans hp)
      have hk2 : Hid (∀ i, n ≤ i → (sx G' p j)[i]? = G[i]?) := Lib.hid fun i hi => (sx_far G' (by omega) (by omega)).trans (hk i hi)
      have hf2 := Lib.hid hf
      replace hpe := Lib.hid hpe
      by_cases hlt : at' (G'.map key) j < at' (G'.map key) p
      · have hd : decide (at' (G'.map key) j < at' (G'.map key) p) = true := decide_eq_true hlt
        rw [hd] at LS
        have N : Hid (Up ((sx G' p j).map key) n p) := Lib.hid (by
          have := hu.next (by simp; omega) (by omega) (by rw [← hpe.out]; exact hlt)
          rw [← hpe.out] at this
          rw [sx_map (by omega) (by omega)]; exact this)
        clear hp hu hi hf RR hk h U hd hlt
        go_wp2_with fail
        refine LS.out.mono ?_
        rintro e w2 ⟨rfl, i2, r2⟩
        have ks := hs.mswap i2
        have SW2 := Lib.hid (SW.out w2 i2)
        replace r2 := Lib.hid r2
        clear i2 SW LS
        go_wp2_with fail
        refine SW2.out.mono ?_
        rintro e w3 ⟨rfl, i3, r3⟩
        have I3 := Lib.hid i3
        have F3 := Lib.hid (hs.rt hf2.out (hs.rt r2.out r3))
        clear i3 r3
        go_wp2_with fail
        go_roundw
        case rel => exact ⟨p, _, rfl, hpm.out, N.out, hk2.out, I3.out, F3.out⟩
        case measure => have := hpe.out; simp [intOf]; omega
      · have hd : decide (at' (G'.map key) j < at' (G'.map key) p) = false := decide_eq_false hlt
        rw [hd] at LS
        have RR2 := Lib.hid (fun W (r : R wr W) (i : I G' W) => RR.out W r i (hu.done (.inr (by rw [← hpe.out]; omega))))
        clear hp hu hi hf hlen RR hk h U hd hlt
        go_wp2_with fail
        refine LS.out.mono ?_
        rintro e w2 ⟨rfl, i2, r2⟩
        have RR3 := Lib.hid (RR2.out w2 r2 i2)
        clear i2 r2
        go_wp2_with fail
        go_end0
        exact ⟨rfl, RR3.out⟩
def DownPost {E : Type} (key : E → Int) (I : List E → World → Prop) (R : World → World → Prop) (w : World) (G : List E) (n i0 : Nat) (e : Ending) (w' : World) : Prop :=
  ∃ (b : Bool) (G' : List E), e = .returned (.bool b) ∧ G'.Perm G ∧ (∀ i, n ≤ i → G'[i]? = G[i]?) ∧ I G' w' ∧ R w w' ∧ (b = true → HeapP (G'.map key) n) ∧ (b = false → G' = G ∧ (i0 < n → Up (G.map key) n i0))
set_option maxHeartbeats 8000000 in
set_option maxRecDepth 100000 in
theorem down_any (hs : HS key I R dt pv rv) (h : I G w) {n i0 : Nat} (hn : n ≤ G.length) (D : Fx (G.map key) n i0) (hH : G.length ≤ 1000) (hi0 : i0 ≤ 1000) :
    Calls Try.prog 60 #[.iface dt pv, .int .i64 i0, .int .i64 n] w (DownPost key I R w G n i0) := by
  have hn' : (n : Int) ≤ 1000 := by omega
  have hi0' : (i0 : Int) ≤ 1000 := by omega
  go_enter Try.func60, Try.ntmps60
  go_wp2_with fail
  go_loopw [7] (fun iv wr => ∃ (i : Nat) (G' : List E), iv = .int .i64 (i : Int) ∧ i ≤ 1000 ∧ G'.Perm G ∧ Fx (G'.map key) n i ∧ (∀ k, n ≤ k → G'[k]? = G[k]?) ∧ I G' wr ∧ R w wr ∧ (i = i0 ∧ G' = G ∨ i0 < i ∧ Dn (G'.map key) n i)) (fun iv _ => 2000 - (intOf iv).toNat)
  case atStart => exact ⟨i0, G, rfl, hi0, List.Perm.refl _, D, fun _ _ => rfl, h, hs.rr w, .inl ⟨rfl, rfl⟩⟩
  case round =>
    obtain ⟨i, G', rfl, hi1, hp, hd, hk, hi, hf, hst⟩ := hrel
    have hlen := hp.length_eq
    have hii : i0 ≤ i := by rcases hst with h | h <;> omega
    have i1 : (i : Int) ≤ 1000 := by omega
    have RR : Hid (∀ W, R wr W → I G' W → ((i < n → Up (G'.map key) n i) ∧ (Dn (G'.map key) n i → HeapP (G'.map key) n)) → DownPost key I R w G n i0 (.returned (.bool (decide (i0 < i)))) W) := Lib.hid fun W hW hI hh => by
      refine ⟨_, G', rfl, hp, hk, hI, hs.rt hf hW, fun e => ?_, fun e => ?_⟩
      · rcases hst with ⟨rfl, -⟩ | ⟨-, d⟩
        · simp at e
        · exact hh.2 d
      · rcases hst with ⟨rfl, rfl⟩ | ⟨h, -⟩
        · exact ⟨rfl, hh.1⟩
        · simp [h] at e
    by_cases hleaf : n ≤ 2 * i + 1
    · have hg1 : (n : Int) ≤ 2 * (i : Int) + 1 := by omega
      have RR2 := Lib.hid (RR.out wr (hs.rr wr) hi ⟨fun h => hd.leaf h hleaf, fun d => d.leaf hleaf⟩)
      clear hp hd hk hi hf hlen RR D h hleaf hst
      go_wp2_with fail
      go_ret
      exact RR2.out
    · have hl1 : 2 * i + 1 < n := by omega
      have hg1 : ¬ (n : Int) ≤ 2 * (i : Int) + 1 := by omega
      have hg2 : ¬ (2 * (i : Int) + 1 < 0) := by omega
      have kl := hs.mless hi
      have HI := Lib.hid hi
      have HF := Lib.hid hf
      have HP := Lib.hid hp
      have HD := Lib.hid hd
      have HK := Lib.hid hk
      have hlen2 := hlen
      replace hst := Lib.hid hst
      -- what the lesser child leads to
      have STEP : Hid (∀ k : Nat, kid (G'.map key) n i = k → k < n → i < k → at' (G'.map key) k < at' (G'.map key) i → (∀ W, I G' W → Calls Try.prog 90 #[rv, .int .i64 i, .int .i64 k] W fun e w' => e = .returned (.tuple #[]) ∧ I (sx G' i k) w' ∧ R W w') ∧ (sx G' i k).Perm G ∧ Dn ((sx G' i k).map key) n k ∧ ∀ q, n ≤ q → (sx G' i k)[q]? = G[q]?) := Lib.hid fun k hk1 hk2 hk3 hlt => by
        refine ⟨fun W hW => hs.swap hW (by omega) (by omega) (by omega), (sx_perm _ _ _).trans hp, ?_, fun q hq => (sx_far _ (by omega) (by omega)).trans (hk q hq)⟩
        have := hd.next (by simp; omega) hl1 (by rw [hk1]; exact hlt)
        rw [hk1] at this
        rw [sx_map (by omega) (by omega)]; exact this
      have STOP : Hid (∀ k : Nat, kid (G'.map key) n i = k → ¬ at' (G'.map key) k < at' (G'.map key) i → ∀ W, R wr W → I G' W → DownPost key I R w G n i0 (.returned (.bool (decide (i0 < i)))) W) := Lib.hid fun k hk1 hnlt W hW hI => RR.out W hW hI ⟨fun h => hd.kids h (by rw [hk1]; omega), fun d => d.done (by rw [hk1]; omega)⟩
      clear hi hf hp hd hk D h hleaf RR
      by_cases h2 : 2 * i + 2 < n
      · have hg3 : 2 * (i : Int) + 1 + 1 < (n : Int) := by omega
        have L1 : Hid (Calls Try.prog 87 #[rv, .int .i64 (2 * (i : Int) + 1 + 1), .int .i64 (2 * (i : Int) + 1)] wr fun e w' => e = .returned (.bool (decide (at' (G'.map key) (2 * i + 2) < at' (G'.map key) (2 * i + 1)))) ∧ I G' w' ∧ R wr w') := Lib.hid (by
          have := hs.less HI.out (i := 2 * i + 2) (j := 2 * i + 1) (by omega) (by omega)
          rw [show ((2 * i + 2 : Nat) : Int) = 2 * (i : Int) + 1 + 1 by omega, show ((2 * i + 1 : Nat) : Int) = 2 * (i : Int) + 1 by omega] at this
          exact this)
        by_cases hr : at' (G'.map key) (2 * i + 2) < at' (G'.map key) (2 * i + 1)
        · have hkid := Lib.hid (kid_right h2 hr)
          have hdr : decide (at' (G'.map key) (2 * i + 2) < at' (G'.map key) (2 * i + 1)) = true := decide_eq_true hr
          rw [hdr] at L1
          clear hr hdr
          have L2 : Hid (∀ W, I G' W → Calls Try.prog 87 #[rv, .int .i64 (2 * (i : Int) + 1 + 1), .int .i64 i] W fun e w' => e = .returned (.bool (decide (at' (G'.map key) (2 * i + 2) < at' (G'.map key) i))) ∧ I G' w' ∧ R W w') := Lib.hid fun W hW => by
            have := hs.less hW (i := 2 * i + 2) (j := i) (by omega) (by omega)
            rw [show ((2 * i + 2 : Nat) : Int) = 2 * (i : Int) + 1 + 1 by omega] at this
            exact this
          by_cases hlt : at' (G'.map key) (2 * i + 2) < at' (G'.map key) i
          · obtain ⟨S, P2, N, K2⟩ := STEP.out _ hkid.out (by omega) (by omega) hlt
            rw [show ((2 * i + 2 : Nat) : Int) = 2 * (i : Int) + 1 + 1 by omega] at S
            replace S := Lib.hid S
            replace P2 := Lib.hid P2
            replace N := Lib.hid N
            replace K2 := Lib.hid K2
            have hdl : decide (at' (G'.map key) (2 * i + 2) < at' (G'.map key) i) = true := decide_eq_true hlt
            rw [hdl] at L2
            clear hdl hlt STEP STOP
            go_wp2_with fail
            refine L1.out.mono ?_
            rintro e w2 ⟨rfl, i2, r2⟩
            have kl2 := hs.mless i2
            have L3 := Lib.hid (L2.out w2 i2)
            replace r2 := Lib.hid r2
            clear i2 L2 L1
            go_wp2_with fail
            refine L3.out.mono ?_
            rintro e w3 ⟨rfl, i3, r3⟩
            have r3 := Lib.hid (hs.rt r2.out r3)
            have ks2 := hs.mswap i3
            have S3 := Lib.hid (S.out w3 i3)
            clear i3 S
            go_wp2_with fail
            refine S3.out.mono ?_
            rintro e w4 ⟨rfl, i4, r4⟩
            have I4 := Lib.hid i4
            have R4 := Lib.hid (hs.rt HF.out (hs.rt r3.out r4))
            clear i4 r4
            go_wp2_with fail
            go_roundw
            case rel => exact ⟨2 * i + 2, _, by simp <;> omega, by omega, P2.out, N.out.fx, K2.out, I4.out, R4.out, .inr ⟨by omega, N.out⟩⟩
            case measure => simp [intOf]; omega
          · have hdl : decide (at' (G'.map key) (2 * i + 2) < at' (G'.map key) i) = false := decide_eq_false hlt
            rw [hdl] at L2
            have ST := Lib.hid (STOP.out _ hkid.out hlt)
            clear hdl hlt STEP STOP
            go_wp2_with fail
            refine L1.out.mono ?_
            rintro e w2 ⟨rfl, i2, r2⟩
            have kl2 := hs.mless i2
            have L3 := Lib.hid (L2.out w2 i2)
            replace r2 := Lib.hid r2
            clear i2 L2 L1
            go_wp2_with fail
            refine L3.out.mono ?_
            rintro e w3 ⟨rfl, i3, r3⟩
            have r3 := Lib.hid (hs.rt r2.out r3)
            have ST2 := Lib.hid (ST.out w3 r3.out i3)
            clear i3
            go_wp2_with fail
            go_ret
            exact ST2.out
        · have hkid := Lib.hid (kid_left (n := n) (G := (G'.map key)) (i := i) (fun h => hr h.2))
          have hdr : decide (at' (G'.map key) (2 * i + 2) < at' (G'.map key) (2 * i + 1)) = false := decide_eq_false hr
          rw [hdr] at L1
          clear hr hdr
          have L2 : Hid (∀ W, I G' W → Calls Try.prog 87 #[rv, .int .i64 (2 * (i : Int) + 1), .int .i64 i] W fun e w' => e = .returned (.bool (decide (at' (G'.map key) (2 * i + 1) < at' (G'.map key) i))) ∧ I G' w' ∧ R W w') := Lib.hid fun W hW => by
            have := hs.less hW (i := 2 * i + 1) (j := i) (by omega) (by omega)
            rw [show ((2 * i + 1 : Nat) : Int) = 2 * (i : Int) + 1 by omega] at this
            exact this
          by_cases hlt : at' (G'.map key) (2 * i + 1) < at' (G'.map key) i
          · obtain ⟨S, P2, N, K2⟩ := STEP.out _ hkid.out (by omega) (by omega) hlt
            rw [show ((2 * i + 1 : Nat) : Int) = 2 * (i : Int) + 1 by omega] at S
            replace S := Lib.hid S
            replace P2 := Lib.hid P2
            replace N := Lib.hid N
            replace K2 := Lib.hid K2
            have hdl : decide (at' (G'.map key) (2 * i + 1) < at' (G'.map key) i) = true := decide_eq_true hlt
            rw [hdl] at L2
            clear hdl hlt STEP STOP
            go_wp2_with fail
            refine L1.out.mono ?_
            rintro e w2 ⟨rfl, i2, r2⟩
            have kl2 := hs.mless i2
            have L3 := Lib.hid (L2.out w2 i2)
            replace r2 := Lib.hid r2
            clear i2 L2 L1
            go_wp2_with fail
            refine L3.out.mono ?_
            rintro e w3 ⟨rfl, i3, r3⟩
            have r3 := Lib.hid (hs.rt r2.out r3)
            have ks2 := hs.mswap i3
            have S3 := Lib.hid (S.out w3 i3)
            clear i3 S
            go_wp2_with fail
            refine S3.out.mono ?_
            rintro e w4 ⟨rfl, i4, r4⟩
            have I4 := Lib.hid i4
            have R4 := Lib.hid (hs.rt HF.out (hs.rt r3.out r4))
            clear i4 r4
            go_wp2_with fail
            go_roundw
            case rel => exact ⟨2 * i + 1, _, by simp <;> omega, by omega, P2.out, N.out.fx, K2.out, I4.out, R4.out, .inr ⟨by omega, N.out⟩⟩
            case measure => simp [intOf]; omega
          · have hdl : decide (at' (G'.map key) (2 * i + 1) < at' (G'.map key) i) = false := decide_eq_false hlt
            rw [hdl] at L2
            have ST := Lib.hid (STOP.out _ hkid.out hlt)
            clear hdl hlt STEP STOP
            go_wp2_with fail
            refine L1.out.mono ?_
            rintro e w2 ⟨rfl, i2, r2⟩
            have kl2 := hs.mless i2
            have L3 := Lib.hid (L2.out w2 i2)
            replace r2 := Lib.hid r2
            clear i2 L2 L1
            go_wp2_with fail
            refine L3.out.mono ?_
            rintro e w3 ⟨rfl, i3, r3⟩
            have r3 := Lib.hid (hs.rt r2.out r3)
            have ST2 := Lib.hid (ST.out w3 r3.out i3)
            clear i3
            go_wp2_with fail
            go_ret
            exact ST2.out
      · have hg3 : ¬ 2 * (i : Int) + 1 + 1 < (n : Int) := by omega
        have hkid := Lib.hid (kid_left (n := n) (G := (G'.map key)) (i := i) (fun h => h2 h.1))
        have L2 : Hid (∀ W, I G' W → Calls Try.prog 87 #[rv, .int .i64 (2 * (i : Int) + 1), .int .i64 i] W fun e w' => e = .returned (.bool (decide (at' (G'.map key) (2 * i + 1) < at' (G'.map key) i))) ∧ I G' w' ∧ R W w') := Lib.hid fun W hW => by
          have := hs.less hW (i := 2 * i + 1) (j := i) (by omega) (by omega)
          rw [show ((2 * i + 1 : Nat) : Int) = 2 * (i : Int) + 1 by omega] at this
          exact this
        by_cases hlt : at' (G'.map key) (2 * i + 1) < at' (G'.map key) i
        · obtain ⟨S, P2, N, K2⟩ := STEP.out _ hkid.out (by omega) (by omega) hlt
          rw [show ((2 * i + 1 : Nat) : Int) = 2 * (i : Int) + 1 by omega] at S
          replace S := Lib.hid S
          replace P2 := Lib.hid P2
          replace N := Lib.hid N
          replace K2 := Lib.hid K2
          have hdl : decide (at' (G'.map key) (2 * i + 1) < at' (G'.map key) i) = true := decide_eq_true hlt
          rw [hdl] at L2
          clear hdl hlt STEP STOP
          go_wp2_with fail
          refine (L2.out wr HI.out).mono ?_
          rintro e w3 ⟨rfl, i3, r3⟩
          replace r3 := Lib.hid r3
          have ks2 := hs.mswap i3
          have S3 := Lib.hid (S.out w3 i3)
          clear i3 S
          go_wp2_with fail
          refine S3.out.mono ?_
          rintro e w4 ⟨rfl, i4, r4⟩
          have I4 := Lib.hid i4
          have R4 := Lib.hid (hs.rt HF.out (hs.rt r3.out r4))
          clear i4 r4
          go_wp2_with fail
          go_roundw
          case rel => exact ⟨2 * i + 1, _, by simp <;> omega, by omega, P2.out, N.out.fx, K2.out, I4.out, R4.out, .inr ⟨by omega, N.out⟩⟩
          case measure => simp [intOf]; omega
        · have hdl : decide (at' (G'.map key) (2 * i + 1) < at' (G'.map key) i) = false := decide_eq_false hlt
          rw [hdl] at L2
          have ST := Lib.hid (STOP.out _ hkid.out hlt)
          clear hdl hlt STEP STOP
          go_wp2_with fail
          refine (L2.out wr HI.out).mono ?_
          rintro e w3 ⟨rfl, i3, r3⟩
          replace r3 := Lib.hid r3
          have ST2 := Lib.hid (ST.out w3 r3.out i3)
          clear i3
          go_wp2_with fail
          go_ret
          exact ST2.out
set_option maxHeartbeats 2000000 in
set_option maxRecDepth 100000 in
/-- One that stood wrong is put right. -/
theorem fix_any (hs : HS key I R dt pv rv) (h : I G w) {j : Nat} (hj : j < G.length) (D : Fx (G.map key) G.length j) (hH : G.length ≤ 1000) :
    Calls Try.prog 42 #[.iface dt pv, .int .i64 j] w fun e w' => e = .returned (.tuple #[]) ∧ Mvd key I R w G G.length w' := by
  have kl := hs.mlen h
  have LL := Lib.hid (hs.len h)
  have DD := Lib.hid (down_any hs h (Nat.le_refl _) D hH (by omega))
  clear h
  go_enter Try.func42, Try.ntmps42
  go_wp2_with fail
  refine LL.out.mono ?_
  rintro e w1 ⟨rfl, rfl⟩
  go_wp2_with fail
  refine DD.out.mono ?_
  rintro e w2 ⟨b, G', rfl, hp, hk, hi, hr, h1, h2⟩
  cases b
  · obtain ⟨rfl, hu⟩ := h2 rfl
    have UU := Lib.hid (up_any hs hi (Nat.le_refl _) (hu hj) hH)
    replace hr := Lib.hid hr
    clear hp hk hi h1 h2 hu DD
    go_wp2_with fail
    refine UU.out.mono ?_
    rintro e w3 ⟨rfl, G2, p2, q2, k2, i2, r2⟩
    have Z : Hid (Mvd key I R w G' G'.length w3) := Lib.hid ⟨G2, p2, q2, k2, i2, hs.rt hr.out r2⟩
    clear p2 q2 k2 i2 r2
    go_wp2_with fail
    go_end0
    exact ⟨rfl, Z.out⟩
  · have Z : Hid (Mvd key I R w G G.length w2) := Lib.hid ⟨G', hp, h1 rfl, hk, hi, hr⟩
    clear hp hk hi h1 h2 hr DD
    go_wp2_with fail
    go_end0
    exact ⟨rfl, Z.out⟩
end
end Go.Proofs.Ytcjoemejoeekiaa.Hg


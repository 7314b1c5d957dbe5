/-
  LAYER 35: the rate as one fact; May, Ask, Last, Len over it; awake.
-/
import Derived.Test.YtoijdmchkjmpgaaRc
namespace Go.Proofs.Ytoijdmchkjmpgaa.Rte
open Go.RowKit Que Hp Hg
/-- The last time of a key. -/
def lst (G : List Gr) (k : ByteArray) : Option Int := (G.find? fun e => decide (e.k = k)).map Gr.t
def Nd (G : List Gr) : Prop := G.Pairwise fun x y => x.k ≠ y.k
theorem Nd.perm {G G' : List Gr} (h : Nd G) (p : G'.Perm G) : Nd G' := (p.pairwise_iff (fun {_ _} hne => Ne.symm hne)).2 h
theorem lst_some {G : List Gr} {k : ByteArray} {t : Int} (h : lst G k = some t) : ∃ e ∈ G, e.k = k ∧ e.t = t := by
  unfold lst at h
  obtain ⟨e, he, rfl⟩ := Option.map_eq_some_iff.1 h
  exact ⟨e, List.mem_of_find?_eq_some he, by simpa using List.find?_some he, rfl⟩
theorem lst_none {G : List Gr} {k : ByteArray} (h : lst G k = none) : ∀ e ∈ G, e.k ≠ k := by
  unfold lst at h
  rw [Option.map_eq_none_iff] at h
  intro e he
  simpa using List.find?_eq_none.1 h e he
theorem lst_of {G : List Gr} (hn : Nd G) {e : Gr} (he : e ∈ G) : lst G e.k = some e.t := by
  induction G with
  | nil => cases he
  | cons x G ih =>
    unfold Nd at hn
    rw [List.pairwise_cons] at hn
    unfold lst
    rw [List.find?_cons]
    rcases List.mem_cons.1 he with rfl | he
    · simp
    · have hne : x.k ≠ e.k := hn.1 e he
      rw [show decide (x.k = e.k) = false from decide_eq_false hne]
      exact ih hn.2 he
theorem lst_no {G : List Gr} {k : ByteArray} (h : ∀ e ∈ G, e.k ≠ k) : lst G k = none := by
  cases hl : lst G k with
  | none => rfl
  | some t => obtain ⟨e, he, hk, -⟩ := lst_some hl; exact absurd hk (h e he)
theorem lst_perm {G G' : List Gr} (hn : Nd G) (p : G'.Perm G) (k : ByteArray) : lst G' k = lst G k := by
  cases hl : lst G k with
  | none => exact lst_no fun e he => lst_none hl e (p.mem_iff.1 he)
  | some t =>
    obtain ⟨e, he, rfl, rfl⟩ := lst_some hl
    exact lst_of (hn.perm p) (p.mem_iff.2 he)
theorem nd_snoc {G : List Gr} (hn : Nd G) {x : Gr} (h : lst G x.k = none) : Nd (G ++ [x]) := by
  unfold Nd at hn ⊢
  rw [List.pairwise_append]
  exact ⟨hn, by simp, fun a ha b hb => by rw [List.mem_singleton.1 hb]; exact lst_none h a ha⟩
theorem lst_snoc {G : List Gr} {x : Gr} (h : lst G x.k = none) (k : ByteArray) : lst (G ++ [x]) k = if x.k = k then some x.t else lst G k := by
  unfold lst
  rw [List.find?_append]
  by_cases e : x.k = k
  · subst e
    rw [if_pos rfl]
    have : G.find? (fun e => decide (e.k = x.k)) = none := by unfold lst at h; rwa [Option.map_eq_none_iff] at h
    rw [this]; simp
  · rw [if_neg e]
    cases G.find? (fun e => decide (e.k = k)) <;> simp [e]
theorem nd_set {G : List Gr} (hn : Nd G) {j : Nat} {e : Gr} (he : G[j]? = some e) (t : Int) : Nd (G.set j ⟨e.k, t⟩) := by
  have hk : (G.set j ⟨e.k, t⟩).map Gr.k = G.map Gr.k := by
    rw [List.map_set]
    apply List.ext_getElem?
    intro i
    by_cases h : j = i
    · subst h
      rw [List.getElem?_set_self (by simpa using (List.getElem?_eq_some_iff.1 he).1), List.getElem?_map, he]; rfl
    · rw [List.getElem?_set_ne h]
  have h1 : (G.map Gr.k).Pairwise (· ≠ ·) := List.pairwise_map.2 hn
  rw [← hk] at h1
  exact List.pairwise_map.1 h1
theorem lst_set {G : List Gr} (hn : Nd G) {j : Nat} {e : Gr} (he : G[j]? = some e) (t : Int) (k : ByteArray) : lst (G.set j ⟨e.k, t⟩) k = if e.k = k then some t else lst G k := by
  have hj := (List.getElem?_eq_some_iff.1 he).1
  by_cases h : e.k = k
  · subst h
    rw [if_pos rfl]
    exact lst_of (nd_set hn he t) (e := ⟨e.k, t⟩) (List.mem_of_getElem? (List.getElem?_set_self hj))
  · rw [if_neg h]
    cases hl : lst G k with
    | none =>
      refine lst_no fun x hx => ?_
      rcases List.mem_or_eq_of_mem_set hx with hx | rfl
      · exact lst_none hl x hx
      · exact h
    | some t' =>
      obtain ⟨x, hx, rfl, rfl⟩ := lst_some hl
      refine lst_of (nd_set hn he t) ?_
      obtain ⟨i, hi, rfl⟩ := List.getElem_of_mem hx
      have hne : j ≠ i := fun e' => by
        subst e'
        rw [List.getElem?_eq_getElem hj] at he
        simp at he
        exact h (by rw [← he])
      exact List.mem_iff_getElem?.2 ⟨i, by rw [List.getElem?_set_ne hne]; exact List.getElem?_eq_getElem hi⟩
theorem lst_ix {G : List Gr} (hn : Nd G) (k : ByteArray) : (ix G k < G.length → ∃ e, G[ix G k]? = some e ∧ e.k = k ∧ lst G k = some e.t) ∧ (¬ ix G k < G.length → lst G k = none) := by
  refine ⟨fun h => ?_, fun h => ?_⟩
  · obtain ⟨e, he, rfl⟩ := ix_hit h
    exact ⟨e, he, rfl, lst_of hn (List.mem_of_getElem? he)⟩
  · have hl : ix G k ≤ G.length := List.findIdx_le_length
    refine lst_no fun e he => ?_
    obtain ⟨i, hi, rfl⟩ := List.getElem_of_mem he
    exact ix_lo (j := i) (by omega) (List.getElem?_eq_getElem hi)
/-- The rate in block g: what it has, in whatever order. -/
structure Rs (A : Nat → Prop) (w : World) (g : Nat) (gap : Int) (G : List Gr) : Prop where
  ex : ∃ v G', Rt 0 w g gap v G' ∧ G'.Perm G ∧ HeapP (G'.map key) G'.length ∧ ∀ k, A k → k < w.heap.size ∧ ¬ SI g v k
  nd : Nd G
  le : G.length ≤ 8
  ge : ∀ e ∈ G, 0 ≤ e.t ∧ e.t ≤ 1073741824
  gp : 0 ≤ gap ∧ gap ≤ 1073741824
def Kp (A : Nat → Prop) (w w' : World) : Prop := Far (fun k => ¬ A k) w w'
theorem Kp.trans {A : Nat → Prop} {a b c : World} (h : Kp A a b) (k : Kp A b c) : Kp A a c := Far.trans h k (fun _ _ h => h)
theorem Kp.below {A : Nat → Prop} {a b : World} {B : Nat} (h : Kp A a b) (hB : B ≤ a.heap.size) (hA : ∀ k, k < B → A k) : Below B a b :=
  Far.below h hB (fun k hk => Nat.le_of_not_lt (fun e => hk (hA k e)))
theorem Kp.of_ext {A : Nat → Prop} {a b : World} (h : Below a.heap.size a b) : Kp A a b := Far.of_ext h
section
variable {A : Nat → Prop} {w w' : World} {g : Nat} {gap : Int} {G : List Gr}
theorem Rs.ext (h : Rs A w g gap G) (hb : Below w.heap.size w w') : Rs A w' g gap G := by
  obtain ⟨v, G', r, p, hp, av⟩ := h.ex
  exact ⟨⟨v, G', r.keep hb, p, hp, fun k hk => ⟨Nat.lt_of_lt_of_le (av k hk).1 hb.size, (av k hk).2⟩⟩, h.nd, h.le, h.ge, h.gp⟩
theorem rnew (n : Int) (w : World) (h : 0 ≤ n ∧ n ≤ 1073741824) : Calls Try.prog 41 #[.int .i64 n] w fun e w' => e = .returned (.tuple #[.pointer (some ⟨w.heap.size, 0, none⟩), .int .i64 0]) ∧ Rs (fun k => k < w.heap.size) w' w.heap.size n [] ∧ Below w.heap.size w w' ∧ w'.heap.size = w.heap.size + 1 :=
  (new_any 0 n w h).mono fun e w' ⟨he, r, b, s⟩ => ⟨he, ⟨⟨_, [], r, List.Perm.refl _, fun i h0 hi => by simp at hi, fun k hk => ⟨by omega, fun e => e.elim (fun e => by omega) (fun e => by cases e)⟩⟩, List.Pairwise.nil, by simp, by simp, h⟩, b, s⟩
theorem rlen (h : Rs A w g gap G) : Calls Try.prog 49 #[.pointer (some ⟨g, 0, none⟩)] w fun e w' => e = .returned (.int .i64 (G.length : Nat)) ∧ w = w' := by
  obtain ⟨v, G', r, p, hp, av⟩ := h.ex
  have := len_any r
  rwa [p.length_eq] at this
/-- May a key be granted? -/
def may (gap : Int) (G : List Gr) (k : ByteArray) (now : Int) : Bool :=
  decide (0 ≤ now ∧ now ≤ 1073741824) && match lst G k with
    | none => decide (G.length < 8)
    | some t => decide (gap ≤ now - t)
set_option maxHeartbeats 2000000 in
set_option maxRecDepth 100000 in
theorem rmay (h : Rs A w g gap G) (k : ByteArray) (now : Int) : Calls Try.prog 44 #[.pointer (some ⟨g, 0, none⟩), .string k, .int .i64 now] w fun e w' => e = .returned (.bool (may gap G k now)) ∧ Below w.heap.size w w' := by
  obtain ⟨v, G', r, p, hp, av⟩ := h.ex
  have hlen := p.length_eq
  have hle := h.le
  have N := Lib.hid (none_any r)
  have T := time_any now w
  by_cases ht : 0 ≤ now ∧ now ≤ 1073741824
  · rw [decide_eq_true ht] at T
    replace T := Lib.hid T
    have F := Lib.hid (find_any r (by omega) k)
    have hm : may gap G k now = match lst G k with
      | none => decide (G.length < 8)
      | some t => decide (gap ≤ now - t) := by unfold may; rw [decide_eq_true ht]; rfl
    rw [← lst_perm h.nd p k] at hm
    have R2 := Lib.hid (fun W (hW : Below w.heap.size w W) => r.keep hW)
    obtain ⟨a, c, hv⟩ := own_slice r.its
    obtain ⟨lx1, lx2⟩ := lst_ix (h.nd.perm p) k
    by_cases hi : ix G' k < G'.length
    · obtain ⟨e, he, hek, hl⟩ := lx1 hi
      rw [hl] at hm
      simp only at hm
      replace hm := Lib.hid hm
      have hf : fnd G' k = (ix G' k : Int) := by unfold fnd; rw [if_pos hi]
      rw [hf] at F
      have hge := h.ge e (p.mem_iff.1 (List.mem_of_getElem? he))
      have hi' : (ix G' k : Int) < (G'.length : Int) := by omega
      have hi8 : (G'.length : Int) ≤ 8 := by omega
      obtain ⟨gb, cb, hv2⟩ := own_slice' r.its (by omega)
      have CC := Lib.hid (fun W (hW : Below w.heap.size w W) => ((r.keep hW).at hv2 he).2)
      rw [hv2] at r R2
      have C1 := Lib.hid (fun W (hW : Below w.heap.size w W) => (R2.out W hW).c1)
      have C2 := Lib.hid (fun W (hW : Below w.heap.size w W) => (R2.out W hW).c2)
      generalize ix G' k = q at *
      obtain ⟨g0, g1⟩ := hge
      obtain ⟨t0, t1⟩ := ht
      obtain ⟨gp0, gp1⟩ := h.gp
      clear r hp av lx1 lx2 hv hv2 he hek hl hf h p R2
      go_enter Try.func44, Try.ntmps44
      go_wp2_with fail
      refine N.out.mono ?_
      rintro e w1 ⟨rfl, rfl⟩
      go_wp2_with fail
      refine T.out.mono ?_
      rintro e w1 ⟨rfl, rfl⟩
      go_wp2_with fail
      refine F.out.mono ?_
      rintro x w2 ⟨rfl, b2⟩
      have cc := CC.out w2 b2
      have c1 := C1.out w2 b2
      have c2 := C2.out w2 b2
      replace b2 := Lib.hid b2
      clear CC C1 C2 F
      have ew : IntKind.i64.wrap (now - e.t) = now - e.t := by
        have : (-9223372036854775808 : Int) ≤ now - e.t ∧ now - e.t ≤ 9223372036854775807 := by omega
        exact IntWalk.i64_in _ this
      go_wp2_with fail
      go_quiet (fail)
      go_wp2_with fail
      go_ret
      exact ⟨by rw [hm.out]; rfl, below_drewN b2.out _⟩
    · have hl := lx2 hi
      rw [hl] at hm
      simp only at hm
      replace hm := Lib.hid hm
      have hf : fnd G' k = -1 := by unfold fnd; rw [if_neg hi]
      rw [hf] at F
      subst hv
      have C2 := Lib.hid (fun W (hW : Below w.heap.size w W) => (R2.out W hW).c2)
      have hlen' : (G'.length : Int) = (G.length : Int) := by omega
      replace hlen' := Lib.hid hlen'
      clear r hp av lx1 lx2 hl hf h p R2 ht hi hlen
      go_enter Try.func44, Try.ntmps44
      go_wp2_with fail
      refine N.out.mono ?_
      rintro e w1 ⟨rfl, rfl⟩
      go_wp2_with fail
      refine T.out.mono ?_
      rintro e w1 ⟨rfl, rfl⟩
      go_wp2_with fail
      refine F.out.mono ?_
      rintro x w2 ⟨rfl, b2⟩
      have c2 := C2.out w2 b2
      replace b2 := Lib.hid b2
      clear C2 F
      go_wp2_with fail
      go_ret
      refine ⟨?_, b2.out⟩
      rw [hm.out]
      have := hlen'.out
      simp
      omega
  · rw [decide_eq_false ht] at T
    replace T := Lib.hid T
    have hm : may gap G k now = false := by unfold may; rw [decide_eq_false ht]; rfl
    rw [hm]
    clear r hp av h p ht hlen hle hm
    go_enter Try.func44, Try.ntmps44
    go_wp2_with fail
    refine N.out.mono ?_
    rintro e w1 ⟨rfl, rfl⟩
    go_wp2_with fail
    refine T.out.mono ?_
    rintro e w1 ⟨rfl, rfl⟩
    go_wp2_with fail
    go_ret
    exact ⟨rfl, Below.refl _ _⟩
set_option maxHeartbeats 2000000 in
set_option maxRecDepth 100000 in
theorem rlast (h : Rs A w g gap G) (k : ByteArray) : Calls Try.prog 50 #[.pointer (some ⟨g, 0, none⟩), .string k] w fun e w' => e = .returned (.tuple #[.int .i64 ((lst G k).getD 0), .bool (lst G k).isSome]) ∧ Below w.heap.size w w' := by
  obtain ⟨v, G', r, p, hp, av⟩ := h.ex
  have hlen := p.length_eq
  have hle := h.le
  have F := Lib.hid (find_any r (by omega) k)
  rw [← lst_perm h.nd p k]
  obtain ⟨lx1, lx2⟩ := lst_ix (h.nd.perm p) k
  by_cases hi : ix G' k < G'.length
  · obtain ⟨e, he, hek, hl⟩ := lx1 hi
    rw [hl]
    have hf : fnd G' k = (ix G' k : Int) := by unfold fnd; rw [if_pos hi]
    rw [hf] at F
    have hi' : (ix G' k : Int) < (G'.length : Int) := by omega
    have hi8 : (G'.length : Int) ≤ 8 := by omega
    obtain ⟨gb, cb, hv2⟩ := own_slice' r.its (by omega)
    have CC := Lib.hid (fun W (hW : Below w.heap.size w W) => ((r.keep hW).at hv2 he).2)
    rw [hv2] at r
    have C2 := Lib.hid (fun W (hW : Below w.heap.size w W) => (r.keep hW).c2)
    generalize ix G' k = q at *
    clear r hp av lx1 lx2 hv2 he hek hl hf h p
    go_enter Try.func50, Try.ntmps50
    go_wp2_with fail
    refine F.out.mono ?_
    rintro x w2 ⟨rfl, b2⟩
    have cc := CC.out w2 b2
    have c2 := C2.out w2 b2
    replace b2 := Lib.hid b2
    clear CC C2 F
    go_wp2_with fail
    go_ret2
    exact ⟨rfl, b2.out⟩
  · have hl := lx2 hi
    rw [hl]
    have hf : fnd G' k = -1 := by unfold fnd; rw [if_neg hi]
    rw [hf] at F
    clear r hp av lx1 lx2 hl hf h p hi
    go_enter Try.func50, Try.ntmps50
    go_wp2_with fail
    refine F.out.mono ?_
    rintro x w2 ⟨rfl, b2⟩
    replace b2 := Lib.hid b2
    go_wp2_with fail
    go_ret2
    exact ⟨rfl, b2.out⟩
theorem rs_end {v v2 : Value} {G' G2 : List Gr} (av : ∀ k, A k → k < w.heap.size ∧ ¬ SI g v k) (F : Far (SI g v) w w') (nb : ∀ k, v2.ownBlock = some k → v.ownBlock = some k ∨ w.heap.size ≤ k) : (∀ k, A k → k < w'.heap.size ∧ ¬ SI g v2 k) ∧ Kp A w w' := by
  have sz := F.size
  refine ⟨fun k hk => ⟨by have := (av k hk).1; omega, ?_⟩, F.mono (fun k _ hk hA => (av k hA).2 hk)⟩
  rintro (e | e)
  · exact (av k hk).2 (.inl e)
  · rcases nb k e with e | e
    · exact (av k hk).2 (.inr e)
    · have := (av k hk).1; omega
/-- The key's last time is another. -/
def Upd (k : ByteArray) (now : Int) (G G2 : List Gr) : Prop := (∀ x, lst G2 x = if k = x then some now else lst G x) ∧ G2.length = (if lst G k = none then G.length + 1 else G.length)
def Asked (b : Bool) (k : ByteArray) (now : Int) (G G2 : List Gr) : Prop := (b = true → Upd k now G G2) ∧ (b = false → G2 = G)
theorem asked_no {k : ByteArray} {now : Int} {G : List Gr} : Asked false k now G G := ⟨fun h => by simp at h, fun _ => rfl⟩
theorem asked_yes {k : ByteArray} {now : Int} {G G2 : List Gr} (h : Upd k now G G2) : Asked true k now G G2 := ⟨fun _ => h, fun h => by simp at h⟩
def AskP (A : Nat → Prop) (w : World) (g : Nat) (gap : Int) (G : List Gr) (k : ByteArray) (now : Int) (e : Ending) (w' : World) : Prop :=
  e = .returned (.bool (may gap G k now)) ∧ Kp A w w' ∧ ∃ G2, Rs A w' g gap G2 ∧ Asked (may gap G k now) k now G G2
set_option maxHeartbeats 2000000 in
set_option maxRecDepth 100000 in
theorem rask (h : Rs A w g gap G) (k : ByteArray) (now : Int) : Calls Try.prog 46 #[.pointer (some ⟨g, 0, none⟩), .string k, .int .i64 now] w (AskP A w g gap G k now) := by
  have M := rmay h k now
  unfold AskP
  cases hm : may gap G k now
  · rw [hm] at M
    replace M := Lib.hid M
    have H := Lib.hid h
    clear h hm
    go_enter Try.func46, Try.ntmps46
    go_wp2_with fail
    refine M.out.mono ?_
    rintro e w1 ⟨rfl, b1⟩
    replace b1 := Lib.hid b1
    go_wp2_with fail
    go_ret
    exact ⟨rfl, Kp.of_ext b1.out, G, H.out.ext b1.out, asked_no⟩
  · rw [hm] at M
    replace M := Lib.hid M
    have hnow : 0 ≤ now ∧ now ≤ 1073741824 := by
      unfold may at hm
      rw [Bool.and_eq_true] at hm
      simpa using hm.1
    have hfree : lst G k = none → G.length < 8 := fun hl => by
      unfold may at hm
      rw [hl, Bool.and_eq_true] at hm
      simpa using hm.2
    have H := Lib.hid h
    go_enter Try.func46, Try.ntmps46
    go_wp2_with fail
    refine M.out.mono ?_
    rintro e w1 ⟨rfl, b1⟩
    have h1 := h.ext b1
    have B1 := Lib.hid b1
    clear b1 M hm h
    obtain ⟨v, G', r, p, hp, av⟩ := h1.ex
    have hlen := p.length_eq
    have hle := h1.le
    have F := Lib.hid (find_any r (by omega) k)
    have hlp := lst_perm h1.nd p k
    have hgp := Lib.hid h1.gp
    have hge := Lib.hid h1.ge
    have hnd := h1.nd
    obtain ⟨lx1, lx2⟩ := lst_ix (h1.nd.perm p) k
    by_cases hi : ix G' k < G'.length
    · obtain ⟨e, he, rfl, hl⟩ := lx1 hi
      have hf : fnd G' e.k = (ix G' e.k : Int) := by unfold fnd; rw [if_pos hi]
      rw [hf] at F
      have hi' : (ix G' e.k : Int) < (G'.length : Int) := by omega
      have hi8 : (G'.length : Int) ≤ 8 := by omega
      obtain ⟨gb, cb, hv2⟩ := own_slice' r.its (by omega)
      generalize ix G' e.k = q at *
      have FX : Hid (∀ W, Below w1.heap.size w1 W → Calls Try.prog 60 #[.iface 110 (.pointer (some ⟨g, 2, none⟩)), .int .i64 q] (W.setCell ⟨gb, q * 2 + 1, none⟩ (.int .i64 now)) fun e' w' => e' = .returned (.tuple #[]) ∧ Kp A w w' ∧ ∃ G2, Rs A w' g gap G2 ∧ Upd e.k now G G2) := Lib.hid fun W hW => by
        have rW := r.keep hW
        have r1 := rW.storeT hv2 he now
        have F1 : Far (SV v) W (W.setCell ⟨gb, q * 2 + 1, none⟩ (.int .i64 now)) := ⟨rfl, rfl, rfl, by simp [World.setCell], fun k _ hk => Below.heap_setCell _ _ _ _ (fun e => hk (by subst e; rw [hv2]; rfl))⟩
        refine (hfix_any rW hp he now (by omega) r1 F1).mono ?_
        rintro e' w' ⟨rfl, G2, p2, hh, r2, f2⟩
        have f3 : Far (SI g v) w1 w' := (Far.of_ext hW).trans (f2.mono (fun k _ h => .inr h)) (fun _ _ h => h)
        obtain ⟨av2, kp⟩ := rs_end (G' := G') (G2 := G2) av f3 (fun k hk => .inl hk)
        have hnd2 := nd_set (hnd.perm p) he now
        refine ⟨rfl, (Kp.of_ext B1.out).trans kp, G2, ⟨⟨v, G2, r2, List.Perm.refl _, hh, av2⟩, hnd2.perm p2, by rw [p2.length_eq]; simp; omega, fun x hx => ?_, hgp.out⟩, fun x => ?_, ?_⟩
        · rcases List.mem_or_eq_of_mem_set (p2.mem_iff.1 hx) with hx | rfl
          · exact hge.out x (p.mem_iff.1 hx)
          · exact hnow
        · rw [lst_perm hnd2 p2, lst_set (hnd.perm p) he, lst_perm hnd p]
        · rw [← hlp, hl, if_neg (by simp), p2.length_eq, List.length_set, hlen]
      have CC := Lib.hid (fun W (hW : Below w1.heap.size w1 W) => ((r.keep hW).at hv2 he).2)
      have FZ := Lib.hid (fun W (hW : Below w1.heap.size w1 W) => (r.keep hW).fzr hv2 (q * 2 + 1))
      rw [hv2] at r
      have C2 := Lib.hid (fun W (hW : Below w1.heap.size w1 W) => (r.keep hW).c2)
      clear r hp av lx1 lx2 hv2 he hl hf h1 p hnd hlp hge hgp hnow hfree
      go_wp2_with fail
      refine F.out.mono ?_
      rintro x w2 ⟨rfl, b2⟩
      have cc := CC.out w2 b2
      have fz := FZ.out w2 b2
      have c2 := C2.out w2 b2
      have FX2 := Lib.hid (FX.out w2 b2)
      clear CC C2 F FZ FX b2
      go_wp2_with fail
      refine FX2.out.mono ?_
      rintro x w3 ⟨rfl, kp, G2, q2, q3⟩
      have Z : Hid (Kp A w w3 ∧ ∃ G2, Rs A w3 g gap G2 ∧ Upd e.k now G G2) := Lib.hid ⟨kp, G2, q2, q3⟩
      clear kp q2 q3
      go_wp2_with fail
      go_ret
      obtain ⟨kp, G2, q2, q3⟩ := Z.out
      exact ⟨rfl, kp, G2, q2, asked_yes q3⟩
    · have hl := lx2 hi
      have hf : fnd G' k = -1 := by unfold fnd; rw [if_neg hi]
      rw [hf] at F
      rw [hlp] at hl
      have h8 := hfree hl
      have PU : Hid (∀ W, Below w1.heap.size w1 W → Calls Try.prog 54 #[.iface 110 (.pointer (some ⟨g, 2, none⟩)), .iface 109 (.agg #[.string k, .int .i64 now])] W fun e' w' => e' = .returned (.tuple #[]) ∧ Kp A w w' ∧ ∃ G2, Rs A w' g gap G2 ∧ Upd k now G G2) := Lib.hid fun W hW => by
        refine (hpush_any (r.keep hW) hp ⟨k, now⟩ (by omega) (Nat.zero_le _)).mono ?_
        rintro e' w' ⟨rfl, v2, G2, p2, hh, n2⟩
        have f3 : Far (SI g v) w1 w' := (Far.of_ext hW).trans n2.far (fun _ _ h => h)
        obtain ⟨av2, kp⟩ := rs_end (G' := G') (G2 := G2) av f3 (fun k hk => (n2.nb k hk).imp id (fun h => Nat.le_trans hW.size h))
        have hl' : lst G' k = none := by rw [hlp]; exact hl
        have hnd2 := nd_snoc (hnd.perm p) (x := ⟨k, now⟩) hl'
        refine ⟨rfl, (Kp.of_ext B1.out).trans kp, G2, ⟨⟨v2, G2, n2.r, List.Perm.refl _, hh, av2⟩, hnd2.perm p2, by rw [p2.length_eq]; simp; omega, fun x hx => ?_, hgp.out⟩, fun x => ?_, ?_⟩
        · rcases List.mem_append.1 (p2.mem_iff.1 hx) with hx | hx
          · exact hge.out x (p.mem_iff.1 hx)
          · rw [List.mem_singleton.1 hx]; exact hnow
        · rw [lst_perm hnd2 p2, lst_snoc hl', lst_perm hnd p]
        · rw [hl, if_pos rfl, p2.length_eq, List.length_append, hlen]; rfl
      clear r hp av lx1 lx2 hl hf h1 p hnd hlp hge hgp hnow hfree hi
      go_wp2_with fail
      refine F.out.mono ?_
      rintro x w2 ⟨rfl, b2⟩
      have PU2 := Lib.hid (PU.out w2 b2)
      clear F PU b2
      go_wp2_with fail
      refine PU2.out.mono ?_
      rintro x w3 ⟨rfl, kp, G2, q2, q3⟩
      have Z : Hid (Kp A w w3 ∧ ∃ G2, Rs A w3 g gap G2 ∧ Upd k now G G2) := Lib.hid ⟨kp, G2, q2, q3⟩
      clear kp q2 q3
      go_wp2_with fail
      go_ret
      obtain ⟨kp, G2, q2, q3⟩ := Z.out
      exact ⟨rfl, kp, G2, q2, asked_yes q3⟩
end
def kA : ByteArray := { data := #[97] }
theorem may_one {gap : Int} {G : List Gr} {k : ByteArray} {now t : Int} (h : lst G k = some t) (h0 : 0 ≤ now ∧ now ≤ 1073741824) : may gap G k now = decide (gap ≤ now - t) := by
  unfold may; rw [h, decide_eq_true h0]; rfl
theorem may_new {gap : Int} {G : List Gr} {k : ByteArray} {now : Int} (h : lst G k = none) (h0 : 0 ≤ now ∧ now ≤ 1073741824) : may gap G k now = decide (G.length < 8) := by
  unfold may; rw [h, decide_eq_true h0]; rfl
set_option maxHeartbeats 4000000 in
set_option maxRecDepth 100000 in
theorem awake35_any (w : World) : Calls Try.prog 43 #[] w (Yes w) := by
  have N := Lib.hid (rnew 10 w (by omega))
  go_enter Try.func43, Try.ntmps43
  go_wp2_with fail
  refine N.out.mono ?_
  rintro e w1 ⟨rfl, r1, b1, z1⟩
  have A1 := rask r1 kA 5
  have m1 : may 10 [] kA 5 = true := by rw [may_new rfl (by omega)]; rfl
  unfold AskP at A1
  rw [m1] at A1
  replace A1 := Lib.hid A1
  replace b1 := Lib.hid b1
  clear r1 z1 N m1
  go_wp2_with fail
  refine A1.out.mono ?_
  rintro e w2 ⟨rfl, k2, G2, r2, u2⟩
  obtain ⟨u2, l2⟩ := u2.1 rfl
  have e2 : lst G2 kA = some 5 := by rw [u2, if_pos rfl]
  replace l2 : G2.length = 1 := by rw [l2, if_pos (show lst [] kA = none from rfl)]; rfl
  have A2 := rask r2 kA 14
  have m2 : may 10 G2 kA 14 = false := by rw [may_one e2 (by omega)]; rfl
  unfold AskP at A2
  rw [m2] at A2
  replace A2 := Lib.hid A2
  replace k2 := Lib.hid k2
  clear r2 u2 A1
  go_wp2_with fail
  refine A2.out.mono ?_
  rintro e w3 ⟨rfl, k3, G3, r3, u3⟩
  obtain rfl := u3.2 rfl
  have A3 := rask r3 kA 15
  have m3 : may 10 G3 kA 15 = true := by rw [may_one e2 (by omega)]; rfl
  unfold AskP at A3
  rw [m3] at A3
  replace A3 := Lib.hid A3
  replace k3 := Lib.hid k3
  clear r3 A2
  go_wp2_with fail
  refine A3.out.mono ?_
  rintro e w4 ⟨rfl, k4, G4, r4, u4⟩
  obtain ⟨u4, l4⟩ := u4.1 rfl
  rw [e2, if_neg (by simp)] at l4
  have L4 := rlen r4
  rw [l4, l2] at L4
  replace L4 := Lib.hid L4
  replace k4 := Lib.hid k4
  clear r4 u4 l4 l2 e2 u3 m2 m3 A3
  go_wp2_with fail
  refine L4.out.mono ?_
  rintro e w5 ⟨rfl, rfl⟩
  go_wp2_with fail
  go_ret
  exact ⟨rfl, b1.out.trans ((k2.out.trans (k3.out.trans k4.out)).below b1.out.size (fun k hk => hk))⟩
end Go.Proofs.Ytoijdmchkjmpgaa.Rte

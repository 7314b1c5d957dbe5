/-
  LAYER 3: the document's Of.
-/
import Derived.Test.YtoglgdkeknojkaaWg
namespace Go.Proofs.Ytoglgdkeknojkaa
open Go.RowKit

theorem Try.info41 : (Try.prog.info? 41).map (fun i => (i.zero, i.size, i.bytes)) = some (some (.agg #[.int .i64 0, .int .i64 0, .int .u64 0, .string ⟨#[]⟩]), 4, 40) := by kernel_rfl
theorem Try.info3 : (Try.prog.info? 3).map (fun i => (i.zero, i.size, i.bytes)) = some (some (.int .i64 0), 1, 8) := by kernel_rfl
def fcs (l : List Fd) : List Value := l.flatMap Fd.cells
theorem fcs_length (l : List Fd) : (fcs l).length = l.length * 4 := by
  induction l with
  | nil => rfl
  | cons f r ih =>
    unfold fcs at *
    rw [List.flatMap_cons, List.length_append, ih, List.length_cons]
    show 4 + _ = _
    omega
theorem fcs_snoc (l : List Fd) (f : Fd) : fcs (l ++ [f]) = fcs l ++ f.cells := by simp [fcs]
theorem fcs_get : ∀ (l : List Fd) (i : Nat) (f : Fd), l[i]? = some f → ∀ j, j < 4 → (fcs l)[i * 4 + j]? = f.cells[j]?
  | [], i, f, h => by simp at h
  | g :: r, 0, f, h => by
    simp at h; subst h
    intro j hj
    unfold fcs
    rw [List.flatMap_cons, List.getElem?_append_left (by show 0 * 4 + j < 4; omega)]
    simp
  | g :: r, i + 1, f, h => by
    intro j hj
    have := fcs_get r i f (by simpa using h) j hj
    unfold fcs at *
    rw [List.flatMap_cons, List.getElem?_append_right (by show 4 ≤ _; omega)]
    rw [← this]
    congr 1
    show (i + 1) * 4 + j - 4 = _
    omega
theorem FdsAt.of_own {w : World} {B : Nat} {v : Value} {l : List Fd} (h : w.ownsRow B 41 4 v l.length (fcs l)) (hl : l.length ≤ 9223372036854775807) : FdsAt w v l := by
  obtain ⟨h1, h2⟩ := h
  rcases h2 with ⟨rfl, hn⟩ | ⟨g, cap, cur, hv, hb, hg, hnc, hcm, hcs, ht⟩
  · exact ⟨none, 0, by rw [hn], hl, .inl (List.eq_nil_of_length_eq_zero hn)⟩
  · refine ⟨_, cap, hv, hl, .inr ⟨g, 0, rfl, (Array.getElem?_eq_some_iff.1 hg).1, fun i f hi j u hj => ?_⟩⟩
    have hj4 : j < 4 := by
      have := (List.getElem?_eq_some_iff.1 hj).1
      exact this
    have hil : i < l.length := (List.getElem?_eq_some_iff.1 hi).1
    rw [cell_of_row w g _ cur 41 (0, 0) hg]
    have hx := fcs_get l i f hi j hj4
    rw [hj, ← ht, List.getElem?_take] at hx
    split at hx
    · rw [← hx]; simp
    · cases hx
def il (l : List Nat) : List Value := l.map fun x : Nat => .int .i64 (x : Int)
def OfPost (R : List Fd × Nat) (w : World) (e : Ending) (w' : World) : Prop := ∃ v, e = .returned (.tuple #[v, .int .i64 (R.2 : Nat)]) ∧ FdsAt w' v R.1 ∧ Below w.heap.size w w'
theorem fds_nil (w : World) : FdsAt w (.slice none 0 0) [] := ⟨none, 0, rfl, by simp, .inl rfl⟩
theorem own_grown {w w' : World} {B B' e e' size size' n n' : Nat} {v v' : Value} {xs xs' : List Value} (h : w.ownsRow B e size v n xs) (h' : w.ownsRow B' e' size' v' n' xs') (hg : w.grownBy w' v'.ownBlock) (ht : e ≠ e') : w'.ownsRow B e size v n xs := by
  rcases h.2 with hn | ⟨g, cap, cur, rfl, hb, hgg, rest⟩
  · exact ⟨h.1, .inl hn⟩
  · have hk : Blk w g e cur := hgg
    exact ⟨h.1, .inr ⟨g, cap, cur, rfl, hb, hk.grown hg (own_type h' hk ht), rest⟩⟩
theorem own_init {w : World} {B e g q cap : Nat} {xs : List Value} {x : Value} (h : w.ownsRow B e 1 (.slice (some ⟨g, 0, none⟩) (q + 1) cap) (q + 1) (xs ++ [x])) : w.ownsRow B e 1 (.slice (some ⟨g, 0, none⟩) q cap) q xs := by
  obtain ⟨h1, h2⟩ := h
  have hl : xs.length = q := by simpa using h1
  refine ⟨by omega, ?_⟩
  rcases h2 with ⟨hn, _⟩ | ⟨g', cap', cur, hv, hb, hg, hnc, hcm, hcs, ht⟩
  · cases hn
  · simp only [Value.slice.injEq] at hv
    obtain ⟨hga, -, rfl⟩ := hv
    refine .inr ⟨g', cap, cur, by rw [hga], hb, hg, by omega, hcm, hcs, ?_⟩
    have : cur.toList.take (q * 1) = (cur.toList.take ((q + 1) * 1)).take q := by rw [List.take_take]; congr 1; omega
    rw [this, ht, List.take_append_of_le_length (by omega), List.take_of_length_le (by omega)]
theorem cell_four_new (w : World) (a b c d : Value) {g : Nat} (t : TypeId) (hg : g = w.heap.size) : ∀ j u, [a, b, c, d][j]? = some u → (w.alloc (.cells #[a, b, c, d] t)).cell? ((⟨g, 0, none⟩ : Addr).add j) = some u := by
  subst hg
  intro j u hj
  rw [Addr.add_mid, Nat.zero_add, World.cell?_alloc_at _ _ _ _ rfl]
  simpa using hj
/-- What the document's Of holds between two rounds. -/
def RRel (w : World) (l : List Nat) (o p a : Value) (wr : World) : Prop :=
  ∃ s : St, a = .int .i64 (s.place : Nat) ∧ s.place ≤ l.length ∧ wr.ownsRow w.heap.size 3 1 p s.op.length (il s.op) ∧ wr.ownsRow w.heap.size 41 4 o s.out.length (fcs s.out) ∧ Below w.heap.size w wr ∧
    s.op.length ≤ 8 ∧ s.out.length ≤ 256 ∧ (∀ x ∈ s.op, x ≤ 536870911) ∧ Leads l ⟨0, [], []⟩ s
theorem of_at {l : List Nat} (h4 : l.length ≤ 4096) {s : St} (h : Leads l ⟨0, [], []⟩ s) : ∃ n, l.length - s.place < n ∧ ofR l = ofF l n s := by
  obtain ⟨n, h1, h2⟩ := h (l.length + 1) (by simp)
  exact ⟨n, h1, by unfold ofR; rw [if_neg (by omega), h2]⟩
set_option maxHeartbeats 2000000 in
set_option maxRecDepth 100000 in
theorem rof_any (v : Value) (l : List Nat) (w : World) (hB : BytesAt w v l) (h : ∀ x ∈ l, x < 256) (hl : l.length ≤ 140737488355328) : Calls Try.prog 21 #[v] w (OfPost (ofR l) w) := by
  have G := Lib.hid fun w' (hb : Below w.heap.size w w') k (hk : k ≤ l.length) => rget_is v l k w' (hB.keep hb (Nat.le_refl _)) h hl hk
  have V := Lib.hid fun w' (hb : Below w.heap.size w w') a num kd (hk : a ≤ l.length) (hn : num ≤ 536870911) (hkd : kd ≤ 7) => rval_any v l a num kd w' (hB.keep hb (Nat.le_refl _)) h hl hk hn hkd
  obtain ⟨aa, cap, rfl, hc, -⟩ := hB
  clear hc
  by_cases h4 : 4096 < l.length
  · have hR : ofR l = ([], 3) := by unfold ofR; rw [if_pos h4]
    have h4' : 4096 < (l.length : Int) := by omega
    replace hR := Lib.hid hR
    replace h := Lib.hid h
    go_enter Try.func21, Try.ntmps21
    go_wp2
    go_ret2
    exact ⟨_, by rw [hR.out]; rfl, by rw [hR.out]; exact fds_nil _, Below.refl _ _⟩
  have h4' : (l.length : Int) ≤ 4096 := by omega
  obtain ⟨i0, hi, hz0, hz1, hz2⟩ := info_parts Try.info41
  replace hi := Lib.hid hi
  replace hz0 := Lib.hid hz0
  replace hz1 := Lib.hid hz1
  replace hz2 := Lib.hid hz2
  obtain ⟨i3, hi3, hy0, hy1, hy2⟩ := info_parts Try.info3
  replace hi3 := Lib.hid hi3
  replace hy0 := Lib.hid hy0
  replace hy1 := Lib.hid hy1
  replace hy2 := Lib.hid hy2
  have hgs := Lib.hid fun k (hk : k ≤ l.length) => g_spec l k h hk
  have hst := Lib.hid fun (s s' : St) (hs : s.place < l.length) (he : stepF l s = .ok s') => And.intro (stepF_spec h (by omega) he) (Leads.step h hs he)
  replace h := Lib.hid h
  go_enter Try.func21, Try.ntmps21
  go_wp2
  go_loopw [4, 5, 6] (fun o p a wr => RRel w l o p a wr) (fun _ _ a _ => l.length - (intOf a).toNat)
  case atStart => exact ⟨⟨0, [], []⟩, rfl, by simp, ⟨rfl, .inl ⟨rfl, rfl⟩⟩, ⟨rfl, .inl ⟨rfl, rfl⟩⟩, Below.refl _ _, by simp, by simp, by simp, Leads.refl _ _⟩
  case round =>
    obtain ⟨s, rfl, hpl, hop, hout, hb, hop8, hout256, hopn, hld⟩ := hrel
    obtain ⟨n, hn, hR⟩ := of_at (by omega) hld
    replace hb := Lib.hid hb
    replace hout := Lib.hid hout
    replace hop := Lib.hid hop
    replace hopn := Lib.hid hopn
    replace hld := Lib.hid hld
    by_cases hend : l.length ≤ s.place
    · rw [ofF_end hn hend] at hR
      have hp : (s.place : Int) = l.length := by omega
      obtain ⟨ap, cp, rfl⟩ := own_slice hop.out
      obtain ⟨ao, co, rfl⟩ := own_slice hout.out
      by_cases h0 : s.op = []
      · rw [if_pos h0] at hR
        have hl0 : s.op.length = 0 := by rw [h0]; rfl
        replace h0 := Lib.hid h0
        replace hR := Lib.hid hR
        go_wp2
        go_ret2
        exact ⟨_, by rw [hR.out]; rfl, by rw [hR.out]; exact FdsAt.of_own hout.out (by simp; omega), hb.out⟩
      · rw [if_neg h0] at hR
        have hl0 : (0 : Int) < s.op.length := by have := List.length_pos_iff.2 h0; omega
        replace h0 := Lib.hid h0
        replace hR := Lib.hid hR
        go_wp2
        go_ret2
        exact ⟨_, by rw [hR.out]; rfl, by rw [hR.out]; exact fds_nil _, hb.out⟩
    have hlt : (s.place : Int) < l.length := by omega
    have hplt : s.place < l.length := by omega
    have hbad := Lib.hid fun (e : Nat) (he : stepF l s = .error e) => hR.trans (ofF_bad hn hplt he)
    clear hn hR
    go_wp2_with fail
    refine (G.out wr hb.out s.place (by omega)).mono ?_
    rintro e w' ⟨⟨h0, rfl⟩ | ⟨h0, rfl⟩, rfl⟩
    · have hg1 := hgs.out s.place (by omega)
      obtain ⟨T, hT⟩ : ∃ x, x = gN l s.place := ⟨_, rfl⟩
      obtain ⟨A, hA⟩ : ∃ x, x = gAt l s.place := ⟨_, rfl⟩
      obtain ⟨D, hD⟩ : ∃ x, x = T / 8 := ⟨_, rfl⟩
      obtain ⟨M, hM⟩ : ∃ x, x = T % 8 := ⟨_, rfl⟩
      have hS : stepF l s = if D < 1 ∨ 536870912 ≤ D then .error 5
          else if M = 3 then (if 8 ≤ s.op.length then .error 12 else .ok ⟨A, s.op ++ [D], s.out⟩)
          else if M = 4 then (if s.op.getLast? ≠ some D then .error 4 else .ok ⟨A, s.op.dropLast, s.out⟩)
          else if vE l A M ≠ 0 then .error (vE l A M)
          else if s.op ≠ [] then .ok ⟨vA l A M, s.op, s.out⟩
          else if 256 ≤ s.out.length then .error 6
          else .ok ⟨vA l A M, s.op, s.out ++ [vF l A D M]⟩ := by
        rw [hD, hM, hT, hA]
        unfold stepF
        rw [if_neg (by simp [h0])]
      rw [← hT, ← hA] at hg1 ⊢
      obtain ⟨-, g1, g2, g3⟩ : 0 = 0 ∧ T ≤ 18446744073709551615 ∧ s.place < A ∧ A ≤ l.length := by omega
      have hM7 : M ≤ 7 := by omega
      have qD : (T : Int) / 8 = (D : Nat) := by omega
      have qM : (T : Int) % 8 = (M : Nat) := by omega
      have g1' : (T : Int) ≤ 18446744073709551615 := by omega
      have hD2 : (D : Int) ≤ 2305843009213693951 := by omega
      have g3' : (A : Int) ≤ l.length := by omega
      clear hg1
      replace hT := Lib.hid hT
      replace hA := Lib.hid hA
      replace hD := Lib.hid hD
      replace hM := Lib.hid hM
      replace hS := Lib.hid hS
      replace h0 := Lib.hid h0
      by_cases c1 : D < 1 ∨ 536870912 ≤ D
      · have hE := hbad.out 5 (by rw [hS.out, if_pos c1])
        replace hE := Lib.hid hE
        by_cases c0 : D < 1
        · have c0' : decide ((D : Int) < 1) = true := decide_eq_true (by omega)
          replace c1 := Lib.hid c1
          replace c0 := Lib.hid c0
          go_wp2_with fail
          go_ret2
          exact ⟨_, by rw [hE.out]; rfl, by rw [hE.out]; exact fds_nil _, hb.out⟩
        · have c0' : decide ((D : Int) < 1) = false := decide_eq_false (by omega)
          have c2' : decide ((536870912 : Int) ≤ (D : Int)) = true := decide_eq_true (by omega)
          replace c1 := Lib.hid c1
          replace c0 := Lib.hid c0
          go_wp2_with fail
          go_ret2
          exact ⟨_, by rw [hE.out]; rfl, by rw [hE.out]; exact fds_nil _, hb.out⟩
      have d1 : decide ((D : Int) < 1) = false := decide_eq_false (by omega)
      have d2 : decide ((536870912 : Int) ≤ (D : Int)) = false := decide_eq_false (by omega)
      have d2n : Hid (D ≤ 536870911) := Lib.hid (by omega)
      have hS2 := hS.out
      rw [if_neg c1] at hS2
      clear hS
      replace c1 := Lib.hid c1
      by_cases m3 : M = 3
      · rw [if_pos m3] at hS2
        have m3' : (M : Int) = 3 := by omega
        by_cases c8 : 8 ≤ s.op.length
        · rw [if_pos c8] at hS2
          have hE := hbad.out 12 hS2
          replace hE := Lib.hid hE
          replace hS2 := Lib.hid hS2
          replace m3 := Lib.hid m3
          obtain ⟨ap, cp, rfl⟩ := own_slice hop.out
          have c8' : (8 : Int) ≤ s.op.length := by omega
          go_wp2_with fail
          go_ret2
          exact ⟨_, by rw [hE.out]; rfl, by rw [hE.out]; exact fds_nil _, hb.out⟩
        · rw [if_neg c8] at hS2
          obtain ⟨⟨hp1, hp2⟩, hl2⟩ := hst.out _ _ hplt hS2
          replace hS2 := Lib.hid hS2
          replace hp1 := Lib.hid hp1
          replace hp2 := Lib.hid hp2
          replace hl2 := Lib.hid hl2
          replace m3 := Lib.hid m3
          obtain ⟨ap, cp, rfl⟩ := own_slice hop.out
          have c8' : (s.op.length : Int) < 8 := by omega
          have zr := hb.out.size
          go_wp2_with (at_builtin; go_must (refine wpList_append_own_at _ rfl (.tmp 49) (.tmp 51) 77 rfl w.heap.size 3 i3 (.int .i64 0) 1 8 Try.underlying77 hi3.out hy0.out hy1.out hy2.out rfl (by decide) _ s.op.length (il s.op) rfl (hop.out.alloc _) ⟨wr.heap.size, 0, none⟩ 1 1 [.int .i64 (D : Nat)] rfl rfl (cell_one_new _ _ _) (by intro u hu; simp at hu; subst hu; rfl) (by unfold maxLen; omega) (by omega) (by simp; omega) ?_); intro v1 w1 o1 gr1 n1 nb1)
          go_roundw
          case rel =>
            refine ⟨⟨A, s.op ++ [D], s.out⟩, rfl, hp2.out, ?_, ?_, ?_, by simp; omega, hout256, ?_, hld.out.trans hl2.out⟩
            · have : il (s.op ++ [D]) = il s.op ++ [.int .i64 (D : Nat)] := by simp [il]
              rw [this, List.length_append, List.length_singleton]
              exact o1
            · exact own_grown ((hout.out.alloc _)) (hop.out.alloc _) gr1 (by decide)
            · exact (hb.out.alloc (by omega) _).grown gr1 (by simp; omega) (fun k hk => (hop.out.lt k hk).1)
            · intro x hx
              rcases List.mem_append.1 hx with hx | hx
              · exact hopn.out x hx
              · simp at hx; have := d2n.out; omega
          case measure => simp [intOf]; omega
      rw [if_neg m3] at hS2
      have m3' : ((M : Int) == 3) = false := by rw [beq_eq_false_iff_ne]; omega
      by_cases m4 : M = 4
      · rw [if_pos m4] at hS2
        have m4' : (M : Int) = 4 := by omega
        replace m3 := Lib.hid m3
        replace m4 := Lib.hid m4
        by_cases c0 : s.op = []
        · rw [if_pos (by rw [c0]; simp)] at hS2
          have hE := hbad.out 4 hS2
          replace hE := Lib.hid hE
          replace hS2 := Lib.hid hS2
          obtain ⟨ap, cp, rfl⟩ := own_slice hop.out
          have c0' : s.op.length = 0 := by rw [c0]; rfl
          replace c0 := Lib.hid c0
          go_wp2_with fail
          go_ret2
          exact ⟨_, by rw [hE.out]; rfl, by rw [hE.out]; exact fds_nil _, hb.out⟩
        · obtain ⟨q, x, hq⟩ : ∃ q x, s.op = q ++ [x] := ⟨_, _, (List.dropLast_concat_getLast c0).symm⟩
          have hop2 := hop.out
          rw [hq] at hop2 hS2
          rw [List.getLast?_concat] at hS2
          obtain ⟨gp, cp, hv5, hgp, hglt, hcap, hcl⟩ := own_at hop2 (by
            intro he
            obtain ⟨a5, c5, he2⟩ := own_slice hop2
            rw [he2] at he
            simp at he)
          have hql : (q ++ [x]).length = q.length + 1 := by simp
          rw [hql] at hv5 hcap
          subst hv5
          have cx := hcl q.length (.int .i64 (x : Nat)) (by simp [il])
          have hq8 : q.length + 1 ≤ 8 := by have := hop8; rw [hq] at this; simpa using this
          have hql' : (q.length : Int) + 1 ≤ 8 := by omega
          clear hcl c0 hop2
          by_cases cx2 : x = D
          · rw [if_neg (by simp [cx2]), List.dropLast_concat] at hS2
            obtain ⟨⟨hp1, hp2⟩, hl2⟩ := hst.out _ _ hplt hS2
            replace hS2 := Lib.hid hS2
            replace hp1 := Lib.hid hp1
            replace hp2 := Lib.hid hp2
            replace hl2 := Lib.hid hl2
            subst cx2
            have hcap' : (q.length : Int) ≤ cp := by omega
            have h7 := hop.out
            have e7 : il (q ++ [x]) = il q ++ [.int .i64 (x : Nat)] := by simp [il]
            rw [hq, hql, e7] at h7
            have o5 := own_init h7
            clear h7 e7
            replace hq := Lib.hid hq
            replace o5 := Lib.hid o5
            go_wp2_with fail
            go_roundw
            case rel => exact ⟨⟨A, q, s.out⟩, rfl, hp2.out, o5.out, hout.out, hb.out, by simp; omega, hout256, fun y hy => hopn.out y (by rw [hq.out]; simp [hy]), hld.out.trans hl2.out⟩
            case measure => simp [intOf]; omega
          · rw [if_pos (by simpa using cx2)] at hS2
            have hE := hbad.out 4 hS2
            replace hE := Lib.hid hE
            replace hS2 := Lib.hid hS2
            replace hq := Lib.hid hq
            have cx3 : ((x : Int) != (D : Int)) = true := by simp; omega
            replace cx2 := Lib.hid cx2
            go_wp2_with fail
            go_ret2
            exact ⟨_, by rw [hE.out]; rfl, by rw [hE.out]; exact fds_nil _, hb.out⟩
      rw [if_neg m4] at hS2
      have m4' : ((M : Int) == 4) = false := by rw [beq_eq_false_iff_ne]; omega
      replace m3 := Lib.hid m3
      replace m4 := Lib.hid m4
      replace hS2 := Lib.hid hS2
      obtain ⟨ap, cp, rfl⟩ := own_slice hop.out
      go_wp2_with fail
      refine (V.out wr hb.out A D M g3 d2n.out hM7).mono ?_
      rintro e w1 ⟨⟨e0, rfl⟩ | ⟨e0, f, nn, rfl⟩, b1⟩
      · have hS3 := hS2.out
        rw [if_neg (by simp [e0])] at hS3
        obtain ⟨N, hN⟩ : ∃ x, x = vA l A M := ⟨_, rfl⟩
        obtain ⟨F, hF⟩ : ∃ x, x = vF l A D M := ⟨_, rfl⟩
        rw [← hN, ← hF] at hS3 ⊢
        obtain ⟨fn, fk, fv, ft⟩ := F
        replace hN := Lib.hid hN
        replace hF := Lib.hid hF
        replace e0 := Lib.hid e0
        simp only [Fd.cells]
        have out1 := own_below hout.out b1
        have op1 := own_below hop.out b1
        have hb1 := ext_trans hb.out b1
        replace hb1 := Lib.hid hb1
        replace out1 := Lib.hid out1
        replace op1 := Lib.hid op1
        have zr := hb1.out.size
        clear b1
        by_cases c0 : s.op = []
        · rw [if_neg (by simpa using c0)] at hS3
          have c0' : s.op.length = 0 := by rw [c0]; rfl
          replace c0 := Lib.hid c0
          by_cases c6 : 256 ≤ s.out.length
          · rw [if_pos c6] at hS3
            have hE := hbad.out 6 hS3
            replace hE := Lib.hid hE
            replace hS3 := Lib.hid hS3
            obtain ⟨ao, co, rfl⟩ := own_slice hout.out
            have c6' : (256 : Int) ≤ s.out.length := by omega
            go_wp2_with fail
            go_ret2
            exact ⟨_, by rw [hE.out]; rfl, by rw [hE.out]; exact fds_nil _, hb1.out.alloc (by omega) _⟩
          · rw [if_neg c6] at hS3
            obtain ⟨⟨hp1, hp2⟩, hl2⟩ := hst.out _ _ hplt hS3
            replace hS3 := Lib.hid hS3
            replace hp1 := Lib.hid hp1
            replace hp2 := Lib.hid hp2
            replace hl2 := Lib.hid hl2
            have c6' : (s.out.length : Int) < 256 := by omega
            obtain ⟨ao, co, rfl⟩ := own_slice hout.out
            go_wp2_with (at_builtin; go_must (refine wpList_append_own_at _ rfl (.tmp 95) (.tmp 97) 39 rfl w.heap.size 41 i0 _ 4 40 Try.underlying39 hi.out hz0.out hz1.out hz2.out rfl (by decide) _ s.out.length (fcs s.out) rfl ((out1.out.alloc _).alloc _) ⟨w1.heap.size + 1, 0, none⟩ 1 1 [.int .i64 fn, .int .i64 fk, .int .u64 (fv : Nat), .string ft] rfl rfl (cell_four_new _ _ _ _ _ _ (by simp)) (by intro u hu; simp at hu; rcases hu with rfl | rfl | rfl | rfl <;> rfl) (by unfold maxLen; omega) (by omega) (by simp; omega) ?_); intro v2 w2 o2 gr2 n2 nb2)
            go_roundw
            case rel =>
              refine ⟨⟨N, s.op, s.out ++ [⟨fn, fk, fv, ft⟩]⟩, rfl, hp2.out, ?_, ?_, ?_, hop8, by simp; omega, hopn.out, hld.out.trans hl2.out⟩
              · have op9 : w1.ownsRow w.heap.size 3 1 (.slice ap 0 cp) s.op.length (il s.op) := by
                  have h9 := op1.out
                  rw [c0'] at h9 ⊢
                  exact h9
                exact own_grown ((op9.alloc _).alloc _) ((out1.out.alloc _).alloc _) gr2 (by decide)
              · rw [fcs_snoc, List.length_append, List.length_singleton]
                exact o2
              · exact (((hb1.out.alloc (by omega) _).alloc (by simp; omega) _).grown gr2 (by simp; omega) (fun k hk => (out1.out.lt k hk).1))
            case measure => simp [intOf]; have := hp1.out; simp at this; omega
        · rw [if_pos c0] at hS3
          have c0' : (0 : Int) < s.op.length := by have := List.length_pos_iff.2 c0; omega
          have c0'' : ((s.op.length : Int) == 0) = false := by rw [beq_eq_false_iff_ne]; omega
          obtain ⟨⟨hp1, hp2⟩, hl2⟩ := hst.out _ _ hplt hS3
          replace hS3 := Lib.hid hS3
          replace hp1 := Lib.hid hp1
          replace hp2 := Lib.hid hp2
          replace hl2 := Lib.hid hl2
          replace c0 := Lib.hid c0
          go_wp2_with fail
          go_roundw
          case rel => exact ⟨⟨N, s.op, s.out⟩, rfl, hp2.out, op1.out.alloc _, out1.out.alloc _, hb1.out.alloc (by omega) _, hop8, hout256, hopn.out, hld.out.trans hl2.out⟩
          case measure => simp [intOf]; have := hp1.out; simp at this; omega
      · have hE := hbad.out (vE l A M) (by rw [hS2.out, if_pos e0])
        have e0' : ((vE l A M : Int) != 0) = true := by simpa using e0
        replace e0 := Lib.hid e0
        replace hE := Lib.hid hE
        obtain ⟨fn, fk, fv, ft⟩ := f
        simp only [Fd.cells]
        have hb1 := ext_trans hb.out b1
        replace hb1 := Lib.hid hb1
        have zr := hb1.out.size
        clear b1
        go_wp2_with fail
        go_ret2
        exact ⟨_, by rw [hE.out]; rfl, by rw [hE.out]; exact fds_nil _, hb1.out.alloc (by omega) _⟩
    · have hE := hbad.out (gE l s.place) (by unfold stepF; rw [if_pos h0])
      have h0' : ((gE l s.place : Int) != 0) = true := by simpa using h0
      replace hE := Lib.hid hE
      replace h0 := Lib.hid h0
      go_wp2_with fail
      go_ret2
      exact ⟨_, by rw [hE.out]; rfl, by rw [hE.out]; exact fds_nil _, hb.out⟩
end Go.Proofs.Ytoglgdkeknojkaa

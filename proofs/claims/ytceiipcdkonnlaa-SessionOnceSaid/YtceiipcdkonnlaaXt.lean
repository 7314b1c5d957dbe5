/-
  LAYER 25: all that is on its way is answered, of one that is there, of one that is not.
-/
import Derived.Test.YtceiipcdkonnlaaXk
namespace Go.Proofs.Ytceiipcdkonnlaa.Ses
open Go.RowKit Que Hp Ids Fli
set_option linter.unusedSimpArgs false
set_option linter.unusedVariables false
theorem oth_head {e : Se} {R : List Se} (h : (e :: R).Pairwise fun x y => x.i ≠ y.i) : oth e.i (e :: R) = R := by
  unfold oth
  rw [List.filter_cons, if_neg (by simp)]
  rw [List.filter_eq_self]
  intro x hx
  have := (List.pairwise_cons.1 h).1 x hx
  simpa using this.symm
theorem px_nil {P : List Se} (h : px P = []) : P = [] := by simpa [px] using h
/-- Between two answers: those of the row that are still to be answered (F), those sent since (N). -/
structure An (A : Nat → Prop) (w wr : World) (a : Ad) (cl : ByteArray) (cn : Bool) (l : List Mg) (lost : Int) (v4 : Value) (S0 F N : List Se) (T1 : List Bool) (l1 : List Mg) (v : Value) (G : List ByteArray) : Prop where
  pu : Pu (fun k => A k ∨ v4.ownBlock = some k) w.heap.size wr a cl cn true T1 (F ++ N) l1 lost v G
  kp : Kp A w wr
  sn : wr.ownsRow w.heap.size 80 6 v4 S0.length (seC S0)
  tx : G ++ tx l1 = tx l
  cnt : N.length + l1.length = l.length
  full : l1 = [] ∨ (F ++ N).length = 8
  iN : inv1 N
section
variable {A : Nat → Prop} {w wr w1 w2 w3 : World} {a : Ad} {cl : ByteArray} {cn : Bool} {l l1 l' : List Mg} {lost : Int} {v4 v v1 v3 : Value} {S0 F F' N L' P : List Se} {T1 T2 T' : List Bool} {G : List ByteArray}
theorem An.next (I : An A w wr a cl cn l lost v4 S0 F N T1 l1 v G) (hF : F'.length ≤ F.length) (e : fl true T2 (F' ++ N) l1 = (T', L', l', P)) (p3 : Pu (fun k => A k ∨ v4.ownBlock = some k) w.heap.size w3 a cl cn true T' L' l' lost v3 (G ++ px P)) (k3 : Kp (fun k => A k ∨ v4.ownBlock = some k) wr w3) : An A w w3 a cl cn l lost v4 S0 F' (N ++ P) T' l' v3 (G ++ px P) := by
  obtain ⟨f1, f2, f3⟩ := fl_spec true l1 T2 (F' ++ N) I.pu.ss.ql
  have fln := fl_ln true l1 T2 (F' ++ N)
  have ff := fl_full l1 T2 (F' ++ N) (by have := I.pu.ss.fs.le; simp only [List.length_append] at this ⊢; omega)
  rw [e] at f1 f2 f3 fln ff
  simp only at f1 f2 f3 fln ff
  rw [List.append_assoc] at f1
  rw [f1] at p3 ff
  refine ⟨p3, I.kp.trans (k3.mono fun k _ e hk => e (.inl hk)), own_fars I.sn k3 (fun k hk e => e (.inr hk)), ?_, ?_, ff, inv1_append I.iN (inv1_of f3)⟩
  · rw [List.append_assoc, f2]; exact I.tx
  · have := I.cnt
    simp only [List.length_append]
    omega
/-- Nothing was sent for the first time. -/
theorem An.quiet (I : An A w wr a cl cn l lost v4 S0 F N T1 l1 v G) (hF : F'.length ≤ F.length) (e : fl true T2 (F' ++ N) l1 = (T', L', l', [])) (S1 : Ss (fun k => ((A k ∨ v4.ownBlock = some k) ∨ v.ownBlock = some k) ∨ v1.ownBlock = some k) w1 a cl cn true T' L' l' lost) (K1 : Kp (fun k => (A k ∨ v4.ownBlock = some k) ∨ v.ownBlock = some k) wr w1) (b2 : Below w1.heap.size w1 w2) : An A w w2 a cl cn l lost v4 S0 F' N T' l' v G := by
  obtain ⟨p1, k1⟩ := I.pu.same (S1.weaken (fun k hk => .inl hk)) K1
  have := I.next (v3 := v) hF e (by simpa [px] using p1.ext b2) (k1.trans (Kp.of_ext b2))
  simpa [px] using this
theorem An.told (I : An A w wr a cl cn l lost v4 S0 F N T1 l1 v G) (hF : F'.length ≤ F.length) (e : fl true T2 (F' ++ N) l1 = (T', L', l', P)) (S1 : Ss (fun k => ((A k ∨ v4.ownBlock = some k) ∨ v.ownBlock = some k) ∨ v1.ownBlock = some k) w1 a cl cn true T' L' l' lost) (K1 : Kp (fun k => (A k ∨ v4.ownBlock = some k) ∨ v.ownBlock = some k) wr w1) (b2 : Below w1.heap.size w1 w2)
    (o3 : w3.ownsRow w.heap.size 9 1 v3 (G ++ px P).length (stL (G ++ px P))) (g3 : w2.grownBy w3 v.ownBlock) (hat : v3.ownBlock = v.ownBlock ∨ v3.ownBlock = some w2.heap.size) : An A w w3 a cl cn l lost v4 S0 F' (N ++ P) T' l' v3 (G ++ px P) := by
  obtain ⟨p3, k3⟩ := I.pu.pump S1 K1 b2 o3 g3 hat
  exact I.next hF e p3 k3
theorem An.at (I : An A w wr a cl cn l lost v4 S0 F N T1 l1 v G) {gs cs : Nat} (hv : v4 = .slice (some ⟨gs, 0, none⟩) S0.length cs) {j : Nat} {e : Se} (he : S0[j]? = some e) : wr.cell? ⟨gs, j * 6, none⟩ = some (.int .i64 e.i) ∧ wr.cell? ⟨gs, j * 6 + 1, none⟩ = some (.int .i64 e.s) := by
  have o := I.sn
  rw [hv] at o
  have g0 := seC_get S0 j e he 0 (by omega)
  have g1 := seC_get S0 j e he 1 (by omega)
  exact ⟨own_get o (g0.trans rfl), own_get o (g1.trans rfl)⟩
end
def AnsW (A : Nat → Prop) (w : World) (a : Ad) (cl : ByteArray) (cn on : Bool) (L : List Se) (l : List Mg) (lost : Int) (e : Ending) (w' : World) : Prop :=
  ∃ v T' L' l' G, e = .returned v ∧ Ss (fun k => A k ∨ v.ownBlock = some k) w' a cl cn on T' L' l' lost ∧ Kp A w w' ∧ w'.ownsRow w.heap.size 9 1 v G.length (stL G) ∧ G ++ tx l' = tx l ∧ inv1 L' ∧ (on = true → L'.length + l'.length = l.length ∧ (l' = [] ∨ L'.length = 8)) ∧ (on = false → L' = L ∧ l' = l)

set_option maxHeartbeats 16000000 in
set_option maxRecDepth 100000 in
theorem answer_on {A : Nat → Prop} {w : World} {a : Ad} {cl : ByteArray} {cn : Bool} {T : List Bool} {L : List Se} {l : List Mg} {lost : Int} (h : Ss A w a cl cn true T L l lost) (hA : ∀ k, A k → k < w.heap.size) (hi : inv1 L) (hf : l = [] ∨ L.length = 8) : Calls Try.prog 13 #[.pointer (some ⟨a.s, 0, none⟩)] w (AnsW A w a cl cn true L l lost) := by
  obtain ⟨i9, hi9, hy0, hy1, hy2⟩ := info_parts info9
  have hL8 := h.fs.le
  have hl16 := h.le
  have FL := Lib.hid (s_flight h)
  have H := Lib.hid h
  clear h
  go_enter Try.func13, Try.ntmps13
  go_wp2_with fail
  refine FL.out.mono ?_
  rintro e w1 ⟨v4, rfl, o1, b1⟩
  have I0 : Hid (An A w w1 a cl cn l lost v4 L (L.drop 0) [] T l (.slice none 0 0) []) := Lib.hid (by
    refine ⟨⟨?_, World.ownsRow_nil _ _ _ _, fun k hk => by cases hk⟩, Kp.of_ext b1, o1, rfl, by simp, by simpa using hf, fun e he => by cases he⟩
    rw [List.drop_zero, List.append_nil]
    exact H.out.others (S := fun _ => False) (Far.of_ext b1) (fun _ e => e.elim) (fun k hk => hk.elim (fun e => e.imp id (fun e => o1.lt k e)) (fun e => by cases e)))
  have hi' := Lib.hid hi
  have hA' := Lib.hid hA
  obtain ⟨va4, vc4, rfl⟩ := own_slice o1
  clear b1 FL hi hA hf
  replace o1 := Lib.hid o1
  go_wp2_with fail
  go_loopw [3, 5] (fun v jv wr => ∃ (j : Nat) (N : List Se) (T1 : List Bool) (l1 : List Mg) (G : List ByteArray), jv = .int .i64 (j : Int) ∧ j ≤ L.length ∧ An A w wr a cl cn l lost (.slice va4 L.length vc4) L (L.drop j) N T1 l1 v G) (fun _ jv _ => L.length - (intOf jv).toNat)
  case atStart => exact ⟨0, _, _, _, _, rfl, by omega, I0.out⟩
  case round =>
    obtain ⟨j, N, T1, l1, G, rfl, hj, I⟩ := hrel
    clear I0
    by_cases hlt : j < L.length
    · have hlt' : (j : Int) < (L.length : Int) := by omega
      obtain ⟨e, he⟩ : ∃ e, L[j]? = some e := ⟨_, List.getElem?_eq_getElem hlt⟩
      have hd : L.drop j = e :: L.drop (j + 1) := by
        obtain ⟨h1, h2⟩ := List.getElem?_eq_some_iff.1 he
        rw [List.drop_eq_getElem_cons h1, h2]
      obtain ⟨gs, cs, hv4⟩ := own_slice' I.sn (by omega)
      obtain ⟨c0, c1⟩ := I.at hv4 he
      simp only [Value.slice.injEq] at hv4
      obtain ⟨rfl, -, rfl⟩ := hv4
      rw [hd] at I
      obtain ⟨va, vc, rfl⟩ := own_slice I.pu.rg
      have hl1 : l1.length ≤ 16 := I.pu.ss.le
      have hG : G.length ≤ 16 := by
        have h1 := congrArg List.length I.tx
        simp only [tx, List.length_append, List.length_map] at h1
        omega
      have hA1 : ∀ k, ((A k ∨ (Value.slice (some ⟨gs, 0, none⟩) L.length vc4).ownBlock = some k) ∨ (Value.slice va G.length vc).ownBlock = some k) → k < wr.heap.size := fun k hk => I.pu.ss.av (.inl hk)
      have nd := I.pu.ss.fs.nd
      have es := hi'.out e (List.mem_of_getElem? he)
      replace I := Lib.hid I
      replace he := Lib.hid he
      by_cases hs : e.s = 1
      · have hsb : (e.s == 1) = true := by simpa using hs
        have AK := Lib.hid (ans_ack I.out.pu.ss hA1 (q := 0) (e := e) rfl hsb)
        have nd' : (e :: (L.drop (j + 1) ++ N)).Pairwise fun x y => x.i ≠ y.i := nd
        rw [List.cons_append, oth_head nd'] at AK
        clear nd nd' es hA1
        go_wp2_with fail
        refine AK.out.mono ?_
        rintro x w2 ⟨v1, T2, T', L', l', P, rfl, s2, k2, o2, e2⟩
        have hP : P.length ≤ 16 := by
          have := fl_ln true l1 T2 (L.drop (j + 1) ++ N)
          rw [e2] at this
          simp only at this
          omega
        have PK := pk_at o2
        have FR := Lib.hid (firsts_any PK (by simp; omega))
        replace s2 := Lib.hid s2
        replace k2 := Lib.hid k2
        replace e2 := Lib.hid e2
        clear PK o2 AK
        go_wp2_with fail
        refine FR.out.mono ?_
        rintro x w3 ⟨v2, rfl, o3, b3⟩
        rw [fst_dk] at o3
        have oG3 := Lib.hid (I.out.pu.row k2.out b3)
        have sz3 := Lib.hid (show w.heap.size ≤ w3.heap.size from Nat.le_trans (Nat.le_trans I.out.kp.size k2.out.size) b3.size)
        have hne := o3.2
        replace o3 := Lib.hid o3
        replace b3 := Lib.hid b3
        clear FR
        rcases hne with ⟨rfl, hn⟩ | ⟨g, cap, cur, rfl, -⟩
        · obtain rfl : P = [] := px_nil (by simpa using hn)
          have I2 := Lib.hid (I.out.quiet (F' := L.drop (j + 1)) (by simp) e2.out s2.out k2.out b3.out)
          clear s2 k2 e2 o3 b3
          go_wp2_with (first
            | (at_builtin; go_loud (refine wpList_append_own_none rfl (.tmp 20) (.tmp 28) 28 rfl w.heap.size 9 i9 1 Try.underlying28 hi9 (.slice va G.length vc) G.length (stL G) rfl oG3.out rfl ?_)))
          go_roundw
          case rel => exact ⟨j + 1, _, _, _, _, by simp, by omega, I2.out⟩
          case measure => simp [intOf]; omega
        · have hnew : Hid (∀ j u, (stL (px P))[j]? = some u → w3.cell? ((⟨g, 0, none⟩ : Addr).add j) = some u) := Lib.hid (by
            intro j u hj
            rw [add_off', Nat.zero_add]
            exact own_get o3.out hj)
          go_wp2_with (first
            | (at_builtin; go_loud (refine wpList_append_own_at _ rfl (.tmp 20) (.tmp 28) 28 rfl w.heap.size 9 i9 (.string ⟨#[]⟩) 1 16 Try.underlying28 hi9 hy0 hy1 hy2 rfl (by decide) (.slice va G.length vc) G.length (stL G) rfl oG3.out ⟨g, 0, none⟩ (px P).length cap (stL (px P)) rfl (by simp [stL]) hnew.out (by intro u hu; obtain ⟨s, -, rfl⟩ := List.mem_map.1 hu; rfl) (by simp only [px, List.length_map]; unfold maxLen; omega) (by simp only [px, List.length_map]; omega) sz3.out ?_); intro v3 w5 o5 g5 _ hat))
          have I2 := Lib.hid (I.out.told (F' := L.drop (j + 1)) (v3 := v3) (w3 := w5) (by simp) e2.out s2.out k2.out b3.out (by simpa [stL] using o5) g5 hat)
          clear s2 k2 e2 o3 b3 o5 g5 hat oG3 hnew
          go_roundw
          case rel => exact ⟨j + 1, _, _, _, _, by simp, by omega, I2.out⟩
          case measure => simp [intOf]; omega
      · have hsb : (e.s == 1) = false := by simpa using hs
        have hsr : (e.s == 2 || e.s == 3) = true := by
          rcases es with es | es | es
          · exact absurd es hs
          · simp [es]
          · simp [es]
        have AK := Lib.hid (ans_rec I.out.pu.ss hA1 (q := 0) (e := e) rfl hsr)
        rw [show (e :: L.drop (j + 1) ++ N).set 0 { e with s := 3 } = ({ e with s := 3 } :: L.drop (j + 1)) ++ N from rfl] at AK
        clear nd es hA1 hsr
        go_wp2_with fail
        refine AK.out.mono ?_
        rintro x w2 ⟨v1, T2, T', L', l', P, rfl, s2, k2, o2, e2⟩
        have hP : P.length ≤ 16 := by
          have := fl_ln true l1 T2 (({ e with s := 3 } :: L.drop (j + 1)) ++ N)
          rw [e2] at this
          simp only at this
          omega
        have PK := pk_at o2
        have FR := Lib.hid (firsts_any PK (by simp; omega))
        replace s2 := Lib.hid s2
        replace k2 := Lib.hid k2
        replace e2 := Lib.hid e2
        clear PK o2 AK
        go_wp2_with fail
        refine FR.out.mono ?_
        rintro x w3 ⟨v2, rfl, o3, b3⟩
        rw [fst_dk] at o3
        have oG3 := Lib.hid (I.out.pu.row k2.out b3)
        have sz3 := Lib.hid (show w.heap.size ≤ w3.heap.size from Nat.le_trans (Nat.le_trans I.out.kp.size k2.out.size) b3.size)
        have hne := o3.2
        replace o3 := Lib.hid o3
        replace b3 := Lib.hid b3
        clear FR
        rcases hne with ⟨rfl, hn⟩ | ⟨g, cap, cur, rfl, -⟩
        · obtain rfl : P = [] := px_nil (by simpa using hn)
          have I2 := Lib.hid (I.out.quiet (F' := ({ e with s := 3 } :: L.drop (j + 1))) (by simp) e2.out s2.out k2.out b3.out)
          obtain ⟨c0b, c1b⟩ := I2.out.at rfl he.out
          clear s2 k2 e2 o3 b3
          go_wp2_with (first
            | (at_builtin; go_loud (refine wpList_append_own_none rfl (.tmp 30) (.tmp 38) 28 rfl w.heap.size 9 i9 1 Try.underlying28 hi9 (.slice va G.length vc) G.length (stL G) rfl oG3.out rfl ?_)))
          have hl1b : l'.length ≤ 16 := I2.out.pu.ss.le
          have hGb : G.length ≤ 16 := by
            have h1 := congrArg List.length I2.out.tx
            simp only [tx, List.length_append, List.length_map] at h1 ⊢
            omega
          have ndb : ({ e with s := 3 } :: (L.drop (j + 1) ++ N)).Pairwise fun x y => x.i ≠ y.i := I2.out.pu.ss.fs.nd
          have AKb := Lib.hid (ans_comp I2.out.pu.ss (fun k hk => I2.out.pu.ss.av (.inl hk)) (q := 0) (e := { e with s := 3 }) rfl rfl)
          rw [List.cons_append, oth_head ndb] at AKb
          clear ndb
          go_wp2_with fail
          refine AKb.out.mono ?_
          rintro x w2b ⟨v1b, T2b, T'b, L'b, l'b, Pb, rfl, s2b, k2b, o2b, e2b⟩
          have hPb : Pb.length ≤ 16 := by
            have := fl_ln true l' T2b (L.drop (j + 1) ++ N)
            rw [e2b] at this
            simp only at this
            omega
          have PKb := pk_at o2b
          have FRb := Lib.hid (firsts_any PKb (by simp; omega))
          replace s2b := Lib.hid s2b
          replace k2b := Lib.hid k2b
          replace e2b := Lib.hid e2b
          clear PKb o2b AKb
          go_wp2_with fail
          refine FRb.out.mono ?_
          rintro x w3b ⟨v2b, rfl, o3b, b3b⟩
          rw [fst_dk] at o3b
          have oG3b := Lib.hid (I2.out.pu.row k2b.out b3b)
          have sz3b := Lib.hid (show w.heap.size ≤ w3b.heap.size from Nat.le_trans (Nat.le_trans I2.out.kp.size k2b.out.size) b3b.size)
          have hneb := o3b.2
          replace o3b := Lib.hid o3b
          replace b3b := Lib.hid b3b
          clear FRb
          rcases hneb with ⟨rfl, hnb⟩ | ⟨gb, capb, curb, rfl, -⟩
          · obtain rfl : Pb = [] := px_nil (by simpa using hnb)
            have I3 := Lib.hid (I2.out.quiet (F' := L.drop (j + 1)) (by simp) e2b.out s2b.out k2b.out b3b.out)
            clear s2b k2b e2b o3b b3b
            go_wp2_with (first
              | (at_builtin; go_loud (refine wpList_append_own_none rfl (.tmp 40) (.tmp 48) 28 rfl w.heap.size 9 i9 1 Try.underlying28 hi9 (.slice va G.length vc) G.length (stL G) rfl oG3b.out rfl ?_)))
            go_roundw
            case rel => exact ⟨j + 1, _, _, _, _, by simp, by omega, I3.out⟩
            case measure => simp [intOf]; omega
          · have hnewb : Hid (∀ j u, (stL (px Pb))[j]? = some u → w3b.cell? ((⟨gb, 0, none⟩ : Addr).add j) = some u) := Lib.hid (by
              intro j u hj
              rw [add_off', Nat.zero_add]
              exact own_get o3b.out hj)
            go_wp2_with (first
              | (at_builtin; go_loud (refine wpList_append_own_at _ rfl (.tmp 40) (.tmp 48) 28 rfl w.heap.size 9 i9 (.string ⟨#[]⟩) 1 16 Try.underlying28 hi9 hy0 hy1 hy2 rfl (by decide) (.slice va G.length vc) G.length (stL G) rfl oG3b.out ⟨gb, 0, none⟩ (px Pb).length capb (stL (px Pb)) rfl (by simp [stL]) hnewb.out (by intro u hu; obtain ⟨s, -, rfl⟩ := List.mem_map.1 hu; rfl) (by simp only [px, List.length_map]; unfold maxLen; omega) (by simp only [px, List.length_map]; omega) sz3b.out ?_); intro v3b w5b o5b g5b _ hatb))
            have I3 := Lib.hid (I2.out.told (F' := L.drop (j + 1)) (v3 := v3b) (w3 := w5b) (by simp) e2b.out s2b.out k2b.out b3b.out (by simpa [stL] using o5b) g5b hatb)
            clear s2b k2b e2b o3b b3b o5b g5b hatb oG3b hnewb
            go_roundw
            case rel => exact ⟨j + 1, _, _, _, _, by simp, by omega, I3.out⟩
            case measure => simp [intOf]; omega
        · have hnew : Hid (∀ j u, (stL (px P))[j]? = some u → w3.cell? ((⟨g, 0, none⟩ : Addr).add j) = some u) := Lib.hid (by
            intro j u hj
            rw [add_off', Nat.zero_add]
            exact own_get o3.out hj)
          go_wp2_with (first
            | (at_builtin; go_loud (refine wpList_append_own_at _ rfl (.tmp 30) (.tmp 38) 28 rfl w.heap.size 9 i9 (.string ⟨#[]⟩) 1 16 Try.underlying28 hi9 hy0 hy1 hy2 rfl (by decide) (.slice va G.length vc) G.length (stL G) rfl oG3.out ⟨g, 0, none⟩ (px P).length cap (stL (px P)) rfl (by simp [stL]) hnew.out (by intro u hu; obtain ⟨s, -, rfl⟩ := List.mem_map.1 hu; rfl) (by simp only [px, List.length_map]; unfold maxLen; omega) (by simp only [px, List.length_map]; omega) sz3.out ?_); intro v3 w5 o5 g5 _ hat; have I2 := Lib.hid (I.out.told (F' := ({ e with s := 3 } :: L.drop (j + 1))) (v3 := v3) (w3 := w5) (by simp) e2.out s2.out k2.out b3.out (by simpa [stL] using o5) g5 hat); obtain ⟨G2, hG2⟩ : ∃ G2, G2 = G ++ px P := ⟨_, rfl⟩; rw [← hG2] at I2; clear hG2; obtain ⟨c0b, c1b⟩ := I2.out.at rfl he.out))
          clear s2 k2 e2 o3 b3 o5 g5 hat oG3 hnew
          obtain ⟨va3, vc3, rfl⟩ := own_slice I2.out.pu.rg
          have hl1b : l'.length ≤ 16 := I2.out.pu.ss.le
          have hGb : G2.length ≤ 16 := by
            have h1 := congrArg List.length I2.out.tx
            simp only [tx, List.length_append, List.length_map] at h1 ⊢
            omega
          have ndb : ({ e with s := 3 } :: (L.drop (j + 1) ++ (N ++ P))).Pairwise fun x y => x.i ≠ y.i := I2.out.pu.ss.fs.nd
          have AKb := Lib.hid (ans_comp I2.out.pu.ss (fun k hk => I2.out.pu.ss.av (.inl hk)) (q := 0) (e := { e with s := 3 }) rfl rfl)
          rw [List.cons_append, oth_head ndb] at AKb
          clear ndb
          go_wp2_with fail
          refine AKb.out.mono ?_
          rintro x w2b ⟨v1b, T2b, T'b, L'b, l'b, Pb, rfl, s2b, k2b, o2b, e2b⟩
          have hPb : Pb.length ≤ 16 := by
            have := fl_ln true l' T2b (L.drop (j + 1) ++ (N ++ P))
            rw [e2b] at this
            simp only at this
            omega
          have PKb := pk_at o2b
          have FRb := Lib.hid (firsts_any PKb (by simp; omega))
          replace s2b := Lib.hid s2b
          replace k2b := Lib.hid k2b
          replace e2b := Lib.hid e2b
          clear PKb o2b AKb
          go_wp2_with fail
          refine FRb.out.mono ?_
          rintro x w3b ⟨v2b, rfl, o3b, b3b⟩
          rw [fst_dk] at o3b
          have oG3b := Lib.hid (I2.out.pu.row k2b.out b3b)
          have sz3b := Lib.hid (show w.heap.size ≤ w3b.heap.size from Nat.le_trans (Nat.le_trans I2.out.kp.size k2b.out.size) b3b.size)
          have hneb := o3b.2
          replace o3b := Lib.hid o3b
          replace b3b := Lib.hid b3b
          clear FRb
          rcases hneb with ⟨rfl, hnb⟩ | ⟨gb, capb, curb, rfl, -⟩
          · obtain rfl : Pb = [] := px_nil (by simpa using hnb)
            have I3 := Lib.hid (I2.out.quiet (F' := L.drop (j + 1)) (by simp) e2b.out s2b.out k2b.out b3b.out)
            clear s2b k2b e2b o3b b3b
            go_wp2_with (first
              | (at_builtin; go_loud (refine wpList_append_own_none rfl (.tmp 40) (.tmp 48) 28 rfl w.heap.size 9 i9 1 Try.underlying28 hi9 (.slice va3 G2.length vc3) G2.length (stL G2) rfl oG3b.out rfl ?_)))
            go_roundw
            case rel => exact ⟨j + 1, _, _, _, _, by simp, by omega, I3.out⟩
            case measure => simp [intOf]; omega
          · have hnewb : Hid (∀ j u, (stL (px Pb))[j]? = some u → w3b.cell? ((⟨gb, 0, none⟩ : Addr).add j) = some u) := Lib.hid (by
              intro j u hj
              rw [add_off', Nat.zero_add]
              exact own_get o3b.out hj)
            go_wp2_with (first
              | (at_builtin; go_loud (refine wpList_append_own_at _ rfl (.tmp 40) (.tmp 48) 28 rfl w.heap.size 9 i9 (.string ⟨#[]⟩) 1 16 Try.underlying28 hi9 hy0 hy1 hy2 rfl (by decide) (.slice va3 G2.length vc3) G2.length (stL G2) rfl oG3b.out ⟨gb, 0, none⟩ (px Pb).length capb (stL (px Pb)) rfl (by simp [stL]) hnewb.out (by intro u hu; obtain ⟨s, -, rfl⟩ := List.mem_map.1 hu; rfl) (by simp only [px, List.length_map]; unfold maxLen; omega) (by simp only [px, List.length_map]; omega) sz3b.out ?_); intro v3b w5b o5b g5b _ hatb))
            have I3 := Lib.hid (I2.out.told (F' := L.drop (j + 1)) (v3 := v3b) (w3 := w5b) (by simp) e2b.out s2b.out k2b.out b3b.out (by simpa [stL] using o5b) g5b hatb)
            clear s2b k2b e2b o3b b3b o5b g5b hatb oG3b hnewb
            go_roundw
            case rel => exact ⟨j + 1, _, _, _, _, by simp, by omega, I3.out⟩
            case measure => simp [intOf]; omega
    · obtain rfl : j = L.length := by omega
      rw [List.drop_length] at I
      obtain ⟨va, vc, rfl⟩ := own_slice I.pu.rg
      replace I := Lib.hid I
      clear hj
      go_wp2_with fail
      go_ret
      obtain ⟨p, k, -, t, c, f, i⟩ := I.out
      exact ⟨_, T1, N, l1, G, rfl, p.ss.weaken (fun k hk => hk.imp .inl id), k, p.rg, t, i, fun _ => ⟨c, f⟩, fun e => by cases e⟩
structure Ao (A : Nat → Prop) (w wr : World) (a : Ad) (cl : ByteArray) (cn : Bool) (T : List Bool) (L : List Se) (l : List Mg) (lost : Int) (v4 v : Value) : Prop where
  pu : Pu (fun k => A k ∨ v4.ownBlock = some k) w.heap.size wr a cl cn false T L l lost v []
  kp : Kp A w wr
  sn : wr.ownsRow w.heap.size 80 6 v4 L.length (seC L)
section
variable {A : Nat → Prop} {w wr w2 w3 : World} {a : Ad} {cl : ByteArray} {cn : Bool} {l : List Mg} {lost : Int} {v4 v v3 : Value} {L : List Se} {T : List Bool}
theorem Ao.quiet (I : Ao A w wr a cl cn T L l lost v4 v) (b : Below wr.heap.size wr w2) : Ao A w w2 a cl cn T L l lost v4 v := ⟨I.pu.ext b, I.kp.trans (Kp.of_ext b), own_keep I.sn b⟩
theorem Ao.told (I : Ao A w wr a cl cn T L l lost v4 v) (b : Below wr.heap.size wr w2) (o3 : w3.ownsRow w.heap.size 9 1 v3 0 []) (g3 : w2.grownBy w3 v.ownBlock) (hat : v3.ownBlock = v.ownBlock ∨ v3.ownBlock = some w2.heap.size) : Ao A w w3 a cl cn T L l lost v4 v3 := by
  obtain ⟨p3, k3⟩ := I.pu.pump (v1 := .slice none 0 0) (G3 := []) (I.pu.ss.weaken (fun k hk => hk.elim id (fun e => by cases e))) (Far.refl _ _) b o3 g3 hat
  exact ⟨p3, I.kp.trans (k3.mono fun k _ e hk => e (.inl hk)), own_fars I.sn k3 (fun k hk e => e (.inr hk))⟩
theorem Ao.at (I : Ao A w wr a cl cn T L l lost v4 v) {gs cs : Nat} (hv : v4 = .slice (some ⟨gs, 0, none⟩) L.length cs) {j : Nat} {e : Se} (he : L[j]? = some e) : wr.cell? ⟨gs, j * 6, none⟩ = some (.int .i64 e.i) ∧ wr.cell? ⟨gs, j * 6 + 1, none⟩ = some (.int .i64 e.s) := by
  have o := I.sn
  rw [hv] at o
  have g0 := seC_get L j e he 0 (by omega)
  have g1 := seC_get L j e he 1 (by omega)
  exact ⟨own_get o (g0.trans rfl), own_get o (g1.trans rfl)⟩
end
theorem pk_nil (w : World) : PkAt w (.slice none 0 0) [] := ⟨none, 0, rfl, .inl rfl⟩
set_option maxHeartbeats 16000000 in
set_option maxRecDepth 100000 in
theorem answer_off {A : Nat → Prop} {w : World} {a : Ad} {cl : ByteArray} {cn : Bool} {T : List Bool} {L : List Se} {l : List Mg} {lost : Int} (h : Ss A w a cl cn false T L l lost) (hA : ∀ k, A k → k < w.heap.size) (hi : inv1 L) : Calls Try.prog 13 #[.pointer (some ⟨a.s, 0, none⟩)] w (AnsW A w a cl cn false L l lost) := by
  obtain ⟨i9, hi9, hy0, hy1, hy2⟩ := info_parts info9
  have hL8 := h.fs.le
  have FL := Lib.hid (s_flight h)
  have H := Lib.hid h
  clear h
  go_enter Try.func13, Try.ntmps13
  go_wp2_with fail
  refine FL.out.mono ?_
  rintro e w1 ⟨v4, rfl, o1, b1⟩
  have I0 : Hid (Ao A w w1 a cl cn T L l lost v4 (.slice none 0 0)) := Lib.hid (by
    refine ⟨⟨?_, World.ownsRow_nil _ _ _ _, fun k hk => by cases hk⟩, Kp.of_ext b1, o1⟩
    exact H.out.others (S := fun _ => False) (Far.of_ext b1) (fun _ e => e.elim) (fun k hk => hk.elim (fun e => e.imp id (fun e => o1.lt k e)) (fun e => by cases e)))
  obtain ⟨va4, vc4, rfl⟩ := own_slice o1
  clear b1 FL hA o1
  replace hi := Lib.hid hi
  go_wp2_with fail
  go_loopw [3, 5] (fun v jv wr => ∃ j : Nat, jv = .int .i64 (j : Int) ∧ j ≤ L.length ∧ Ao A w wr a cl cn T L l lost (.slice va4 L.length vc4) v) (fun _ jv _ => L.length - (intOf jv).toNat)
  case atStart => exact ⟨0, rfl, by omega, I0.out⟩
  case round =>
    obtain ⟨j, rfl, hj, I⟩ := hrel
    clear I0
    obtain ⟨va, vc, hv⟩ := own_slice I.pu.rg
    simp only [List.length_nil] at hv
    subst hv
    by_cases hlt : j < L.length
    · have hlt' : (j : Int) < (L.length : Int) := by omega
      obtain ⟨e, he⟩ : ∃ e, L[j]? = some e := ⟨_, List.getElem?_eq_getElem hlt⟩
      obtain ⟨gs, cs, hv4⟩ := own_slice' I.sn (by omega)
      obtain ⟨c0, c1⟩ := I.at hv4 he
      simp only [Value.slice.injEq] at hv4
      obtain ⟨rfl, -, rfl⟩ := hv4
      have sz := I.kp.size
      have AK := Lib.hid (fun kd => ans_off I.pu.ss kd e.i)
      have FR := Lib.hid (firsts_any (pk_nil wr) (by simp))
      have oG := Lib.hid (fun W (b : Below wr.heap.size wr W) => own_keep I.pu.rg b)
      replace I := Lib.hid I
      replace he := Lib.hid he
      by_cases hs : e.s = 1
      · have hsb : (e.s == 1) = true := by simpa using hs
        go_wp2_with fail
        refine (AK.out 4).mono ?_
        rintro x w2 ⟨rfl, rfl⟩
        go_wp2_with fail
        refine FR.out.mono ?_
        rintro x w3 ⟨v2, rfl, o3, b3⟩
        have oG3 := Lib.hid (oG.out _ b3)
        have sz3 : w.heap.size ≤ w3.heap.size := Nat.le_trans I.out.kp.size b3.size
        have hne := o3.2
        replace o3 := Lib.hid o3
        replace b3 := Lib.hid b3
        clear AK FR
        rcases hne with ⟨rfl, hn⟩ | ⟨g, cap, cur, rfl, -⟩
        · have I2 := Lib.hid (I.out.quiet b3.out)
          go_wp2_with (first
            | (at_builtin; go_loud (refine wpList_append_own_none rfl (.tmp 20) (.tmp 28) 28 rfl w.heap.size 9 i9 1 Try.underlying28 hi9 (.slice va 0 vc) 0 [] rfl oG3.out rfl ?_)))
          go_roundw
          case rel => exact ⟨j + 1, by simp, by omega, I2.out⟩
          case measure => simp [intOf]; omega
        · go_wp2_with (first
            | (at_builtin; go_loud (refine wpList_append_own_at _ rfl (.tmp 20) (.tmp 28) 28 rfl w.heap.size 9 i9 (.string ⟨#[]⟩) 1 16 Try.underlying28 hi9 hy0 hy1 hy2 rfl (by decide) (.slice va 0 vc) 0 [] rfl oG3.out ⟨g, 0, none⟩ 0 cap [] rfl rfl (by intro j u hj; simp at hj) (by intro u hu; simp at hu) (by unfold maxLen; omega) (by omega) sz3 ?_); intro v3 w5 o5 g5 _ hat; have I2 := Lib.hid (I.out.told b3.out (v3 := v3) (by simpa using o5) g5 hat)))
          go_roundw
          case rel => exact ⟨j + 1, by simp, by omega, I2.out⟩
          case measure => simp [intOf]; omega
      · have hsb : (e.s == 1) = false := by simpa using hs
        go_wp2_with fail
        refine (AK.out 5).mono ?_
        rintro x w2 ⟨rfl, rfl⟩
        go_wp2_with fail
        refine FR.out.mono ?_
        rintro x w3 ⟨v2, rfl, o3, b3⟩
        have oG3 := Lib.hid (oG.out _ b3)
        have sz3 : w.heap.size ≤ w3.heap.size := Nat.le_trans I.out.kp.size b3.size
        have hne := o3.2
        replace o3 := Lib.hid o3
        replace b3 := Lib.hid b3
        clear AK FR
        rcases hne with ⟨rfl, hn⟩ | ⟨g, cap, cur, rfl, -⟩
        · have I2 := Lib.hid (I.out.quiet b3.out)
          obtain ⟨c0b, c1b⟩ := I2.out.at rfl he.out
          go_wp2_with (first
            | (at_builtin; go_loud (refine wpList_append_own_none rfl (.tmp 30) (.tmp 38) 28 rfl w.heap.size 9 i9 1 Try.underlying28 hi9 (.slice va 0 vc) 0 [] rfl oG3.out rfl ?_)))
          have AKb := Lib.hid (fun kd => ans_off I2.out.pu.ss kd e.i)
          have FRb := Lib.hid (firsts_any (pk_nil w3) (by simp))
          have oGb := Lib.hid (fun W (b : Below w3.heap.size w3 W) => own_keep I2.out.pu.rg b)
          go_wp2_with fail
          refine (AKb.out 7).mono ?_
          rintro x w2b ⟨rfl, rfl⟩
          go_wp2_with fail
          refine FRb.out.mono ?_
          rintro x w3b ⟨v2b, rfl, o3b, b3b⟩
          have oG3b := Lib.hid (oGb.out _ b3b)
          have sz3b : w.heap.size ≤ w3b.heap.size := Nat.le_trans I2.out.kp.size b3b.size
          have hneb := o3b.2
          replace o3b := Lib.hid o3b
          replace b3b := Lib.hid b3b
          clear AKb FRb
          rcases hneb with ⟨rfl, hnb⟩ | ⟨gb, capb, curb, rfl, -⟩
          · have I3 := Lib.hid (I2.out.quiet b3b.out)
            go_wp2_with (first
              | (at_builtin; go_loud (refine wpList_append_own_none rfl (.tmp 40) (.tmp 48) 28 rfl w.heap.size 9 i9 1 Try.underlying28 hi9 (.slice va 0 vc) 0 [] rfl oG3b.out rfl ?_)))
            go_roundw
            case rel => exact ⟨j + 1, by simp, by omega, I3.out⟩
            case measure => simp [intOf]; omega
          · go_wp2_with (first
              | (at_builtin; go_loud (refine wpList_append_own_at _ rfl (.tmp 40) (.tmp 48) 28 rfl w.heap.size 9 i9 (.string ⟨#[]⟩) 1 16 Try.underlying28 hi9 hy0 hy1 hy2 rfl (by decide) (.slice va 0 vc) 0 [] rfl oG3b.out ⟨gb, 0, none⟩ 0 capb [] rfl rfl (by intro j u hj; simp at hj) (by intro u hu; simp at hu) (by unfold maxLen; omega) (by omega) sz3b ?_); intro v3b w5b o5b g5b _ hatb; have I3 := Lib.hid (I2.out.told b3b.out (v3 := v3b) (by simpa using o5b) g5b hatb)))
            go_roundw
            case rel => exact ⟨j + 1, by simp, by omega, I3.out⟩
            case measure => simp [intOf]; omega
        · go_wp2_with (first
            | (at_builtin; go_loud (refine wpList_append_own_at _ rfl (.tmp 30) (.tmp 38) 28 rfl w.heap.size 9 i9 (.string ⟨#[]⟩) 1 16 Try.underlying28 hi9 hy0 hy1 hy2 rfl (by decide) (.slice va 0 vc) 0 [] rfl oG3.out ⟨g, 0, none⟩ 0 cap [] rfl rfl (by intro j u hj; simp at hj) (by intro u hu; simp at hu) (by unfold maxLen; omega) (by omega) sz3 ?_); intro v3 w5 o5 g5 _ hat; have I2 := Lib.hid (I.out.told b3.out (v3 := v3) (by simpa using o5) g5 hat); obtain ⟨c0b, c1b⟩ := I2.out.at rfl he.out))
          obtain ⟨va3, vc3, hvb⟩ := own_slice I2.out.pu.rg
          simp only [List.length_nil] at hvb
          subst hvb
          have AKb := Lib.hid (fun kd => ans_off I2.out.pu.ss kd e.i)
          have FRb := Lib.hid (firsts_any (pk_nil w5) (by simp))
          have oGb := Lib.hid (fun W (b : Below w5.heap.size w5 W) => own_keep I2.out.pu.rg b)
          go_wp2_with fail
          refine (AKb.out 7).mono ?_
          rintro x w2b ⟨rfl, rfl⟩
          go_wp2_with fail
          refine FRb.out.mono ?_
          rintro x w3b ⟨v2b, rfl, o3b, b3b⟩
          have oG3b := Lib.hid (oGb.out _ b3b)
          have sz3b : w.heap.size ≤ w3b.heap.size := Nat.le_trans I2.out.kp.size b3b.size
          have hneb := o3b.2
          replace o3b := Lib.hid o3b
          replace b3b := Lib.hid b3b
          clear AKb FRb
          rcases hneb with ⟨rfl, hnb⟩ | ⟨gb, capb, curb, rfl, -⟩
          · have I3 := Lib.hid (I2.out.quiet b3b.out)
            go_wp2_with (first
              | (at_builtin; go_loud (refine wpList_append_own_none rfl (.tmp 40) (.tmp 48) 28 rfl w.heap.size 9 i9 1 Try.underlying28 hi9 (.slice va3 0 vc3) 0 [] rfl oG3b.out rfl ?_)))
            go_roundw
            case rel => exact ⟨j + 1, by simp, by omega, I3.out⟩
            case measure => simp [intOf]; omega
          · go_wp2_with (first
              | (at_builtin; go_loud (refine wpList_append_own_at _ rfl (.tmp 40) (.tmp 48) 28 rfl w.heap.size 9 i9 (.string ⟨#[]⟩) 1 16 Try.underlying28 hi9 hy0 hy1 hy2 rfl (by decide) (.slice va3 0 vc3) 0 [] rfl oG3b.out ⟨gb, 0, none⟩ 0 capb [] rfl rfl (by intro j u hj; simp at hj) (by intro u hu; simp at hu) (by unfold maxLen; omega) (by omega) sz3b ?_); intro v3b w5b o5b g5b _ hatb; have I3 := Lib.hid (I2.out.told b3b.out (v3 := v3b) (by simpa using o5b) g5b hatb)))
            go_roundw
            case rel => exact ⟨j + 1, by simp, by omega, I3.out⟩
            case measure => simp [intOf]; omega
    · obtain rfl : j = L.length := by omega
      replace I := Lib.hid I
      clear hj
      go_wp2_with fail
      go_ret
      exact ⟨_, T, L, l, [], rfl, I.out.pu.ss.weaken (fun k hk => hk.imp .inl id), I.out.kp, I.out.pu.rg, rfl, hi.out, fun e => (by cases e), fun _ => ⟨rfl, rfl⟩⟩
end Go.Proofs.Ytceiipcdkonnlaa.Ses

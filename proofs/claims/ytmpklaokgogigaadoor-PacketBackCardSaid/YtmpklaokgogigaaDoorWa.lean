/-
  LAYER 16: Put of every kind, and what is read of what was put.
-/
import Derived.Test.YtmpklaokgogigaaDoorLq
import Derived.Test.YtmpklaokgogigaaDoorLj
import Derived.Test.YtmpklaokgogigaaDoorKh
import Derived.Test.YtmpklaokgogigaaDoorSc
import Derived.Test.YtmpklaokgogigaaDoorNo
namespace Go.Proofs.YtmpklaokgogigaaDoor.Pub
set_option linter.unusedVariables false
set_option linter.unusedSimpArgs false
open Go.Proofs.YtmpklaokgogigaaDoor
open Go.RowKit
theorem pid_bad (n : Int) (w : World) (h : n < 1 ∨ 65535 < n) : Calls Tryd.prog 78 #[.int .i64 n] w (Numb [] 1 w) := by
  have k : Calls Tryd.prog 78 #[.int .i64 n] w fun e w' => e = .returned (.tuple #[.slice none 0 0, .int .i64 1]) ∧ w = w' := by
    rcases (show n < 1 ∨ (1 ≤ n ∧ 65535 < n) by omega) with h | ⟨h, h'⟩
    all_goals
      go_enter Tryd.func78, Tryd.ntmps78
      go_wp2
      go_ret2
      exact ⟨rfl, rfl⟩
  refine k.mono ?_
  rintro e w' ⟨rfl, rfl⟩
  exact ⟨_, rfl, ⟨none, 0, rfl, ⟨by simp, fun _ => rfl⟩, .inl rfl⟩, Below.refl _ _⟩
theorem pid_good (n : Nat) (w : World) (h1 : 1 ≤ n) (h2 : n ≤ 65535) : Calls Tryd.prog 78 #[.int .i64 n] w (Numb [n / 256, n % 256] 0 w) := by
  refine (pid_ok n w h1 h2).mono ?_
  rintro e w' ⟨rfl, rfl⟩
  refine ⟨_, rfl, ?_, ext_alloc _ _⟩
  have := Go.Proofs.YtmpklaokgogigaaDoor.two_own w n
  exact BytesAt.of_own this
/-- The program's Put of a message: the bytes, and why they can't be. -/
theorem pub_put (t x : ByteArray) (q id : Int) (r : Bool) (hx : x.size ≤ 140737488351232) (ht : t.size ≤ 140737488351232) :
    ∃ l err, (∀ w, Calls Tryd.prog 77 #[.agg #[.string t, .string x, .int .i64 q, .bool r], .int .i64 id] w (Numb l err w)) ∧
      (err = 0 → ∃ nl, l = rawL t ++ nl ++ txtL x ∧ 0 ≤ q ∧ q ≤ 2 ∧ topicB t = true ∧ t.size ≤ 65535 ∧ rightB t = true ∧ NumOk q id nl ∧ l.length ≤ 4096) := by
  by_cases hq : q < 0 ∨ 2 < q
  · exact ⟨[], 10, fun w => put14_qos t x q id r w hq, by simp⟩
  have q0 : 0 ≤ q := by omega
  have q2 : q ≤ 2 := by omega
  cases htp : topicB t
  · exact ⟨[], 13, fun w => put14_topic t x q id r w q0 q2 (by omega) htp, by simp⟩
  by_cases hl : 65535 < t.size
  · exact ⟨[], 3, fun w => put14_text t x q id 3 r w q0 q2 (by omega) htp (by decide) (fun w => below_of (put_long t w hl)), by simp⟩
  have hl' : t.size ≤ 65535 := by omega
  cases hr : rightB t
  · exact ⟨[], 9, fun w => put14_text t x q id 9 r w q0 q2 (by omega) htp (by decide) (fun w => put_bad t w hl' hr), by simp⟩
  have P := put_row t _ hl' hr rfl
  have hlen := rawL_length t
  have hne : rawL t ≠ [] := by unfold rawL; simp
  have htx : (txtL x).length = x.size := txtL_length x
  by_cases hz : q = 0
  · subst hz
    by_cases hid : id = 0
    · subst hid
      have K := fun w => put14_run0 t x 0 0 0 r [] (rawL t) (rawL t) w q0 q2 hx hl' htp P number_0 field_0 none_ok (by simp) (by omega) (by simp) hne (by omega)
      by_cases hL : 4096 < (rawL t).length + x.size
      · exact ⟨[], 3, fun w => (K w).1 hL, by simp⟩
      · exact ⟨_, 0, fun w => (K w).2 (by omega), fun _ => ⟨[], by simp, q0, q2, rfl, hl', rfl, .inl ⟨rfl, rfl, rfl⟩, by rw [List.length_append, htx]; omega⟩⟩
    · exact ⟨[], 1, fun w => put14_num0 t x 0 id r (rawL t) w q0 q2 hl' htp P number_0 field_0 (fun w => none_err id w hid), by simp⟩
  · have qp : 0 < q := by omega
    have NB := fun w => number_pos q w qp
    by_cases hid : id < 1 ∨ 65535 < id
    · exact ⟨[], 1, fun w => put14_numP t x q id r (rawL t) w q0 q2 hl' htp P NB field_put (fun w => pid_bad id w hid), by simp⟩
    · obtain ⟨k, rfl⟩ := Int.eq_ofNat_of_zero_le (show 0 ≤ id by omega)
      have I1 := fun w => pid_good k w (by omega) (by omega)
      have hpl : (rawL t ++ [k / 256, k % 256]).length ≤ 65539 := by rw [List.length_append, hlen]; simp; omega
      have K := fun w => put14_runP t x q k 0 r _ (rawL t) _ w q0 q2 hx hl' htp P NB field_put I1 (by simp) (by omega) rfl (by simp) hpl
      by_cases hL : 4096 < (rawL t ++ [k / 256, k % 256]).length + x.size
      · exact ⟨[], 3, fun w => (K w).1 hL, by simp⟩
      · exact ⟨_, 0, fun w => (K w).2 (by omega), fun _ => ⟨[k / 256, k % 256], rfl, q0, q2, rfl, hl', rfl, .inr ⟨qp, k, rfl, by omega, by omega, rfl⟩, by rw [List.length_append, htx]; omega⟩⟩
end Go.Proofs.YtmpklaokgogigaaDoor.Pub
namespace Go.Proofs.YtmpklaokgogigaaDoor.Pac
set_option linter.unusedVariables false
set_option linter.unusedSimpArgs false
open Go.Proofs.YtmpklaokgogigaaDoor
open Go.RowKit
/-- The bytes L are a packet, and are read as Q. -/
def Laid (L : List Nat) (Q : Pk) : Prop := ∃ (k f : Nat) (b : List Nat), L = Hea.putB k f b.length ++ b ∧ Hea.RightF k f = 0 ∧ b.length ≤ 4096 ∧ (∀ x ∈ b, x < 256) ∧
  ∀ w, Hea.Tab3 w → Calls Tryd.prog 7 #[.agg #[.int .i64 k, .int .i64 f, .int .i64 (b.length : Nat), .string (strB b)]] w (PkP Q 0 w)
/-- What Put answers. -/
def PutA (P : Pk) (L : List Nat) (m : Int) : Prop :=
  (∀ f c w, Hea.Tab3 w → FisAt w f P.fl → IntsAt w c P.cl → Calls Tryd.prog 13 #[.agg (P.v f c)] w (Pub.Numb L m w)) ∧ (m = 0 → Laid L (cln P))
theorem laid_of {k f : Nat} {b : List Nat} {Q : Pk} (hr : Hea.RightF k f = 0) (hb : b.length ≤ 4096) (h256 : ∀ x ∈ b, x < 256)
    (hR : ∀ w, Hea.Tab3 w → Calls Tryd.prog 17 #[.agg #[.int .i64 k, .int .i64 f, .int .i64 (b.length : Nat), .string (strB b)]] w (PkP Q 0 w)) : Laid (Hea.putB k f b.length ++ b) Q :=
  ⟨k, f, b, rfl, hr, hb, h256, fun w ht => of_reado_p k f b.length (strB b) w ht hr (by rw [strB_size]) Q hR⟩
theorem putE_zero2 {id : Int} {l : List Fi} {ends : Bool} (h : putE id l ends = 0) : (1 ≤ id ∧ id ≤ 65535) ∧ ∀ f ∈ l, fiE ends f = 0 := by
  unfold putE at h
  by_cases z : beginE id l.length ≠ 0
  · rw [if_pos z] at h; exact absurd h z
  rw [if_neg z] at h
  by_cases y : firstF ends l ≠ 0
  · rw [if_pos y] at h; exact absurd h y
  exact ⟨(begin_zero (n := (l.length : Int)) (by omega) (by simpa using z)).2.2, firstF_zero.1 (by simpa using y)⟩
theorem strB_le {b : List Nat} (h : b.length ≤ 4096) : (strB b).size ≤ 140737488351232 := by rw [strB_size]; omega
theorem putA_1 (P : Pk) (hk : P.kind = 1) (ok : P.ok) : ∃ L m, PutA P L m := by
  have hcl : cln P = pkC 1 P.c := by unfold cln; rw [if_pos hk]
  have hW : ∀ W, Calls Tryd.prog 75 #[.agg (pkC 1 P.c).c.v] W (Pub.Numb (conP P.c.lev P.c.clean P.c.keep P.c.client P.c.hasW P.c.topic P.c.text P.c.qos P.c.ret P.c.hasU P.c.user P.c.hasP P.c.pass).1 (conP P.c.lev P.c.clean P.c.keep P.c.client P.c.hasW P.c.topic P.c.text P.c.qos P.c.ret P.c.hasU P.c.user P.c.hasP P.c.pass).2 W) :=
    fun W => cputs P.c.lev P.c.clean P.c.keep P.c.client P.c.hasW P.c.topic P.c.text P.c.qos P.c.ret P.c.hasU P.c.user P.c.hasP P.c.pass W ok.ct ok.cp
  by_cases hm : (conP P.c.lev P.c.clean P.c.keep P.c.client P.c.hasW P.c.topic P.c.text P.c.qos P.c.ret P.c.hasU P.c.user P.c.hasP P.c.pass).2 = 0
  · have hl := Con.put_laid hm
    generalize (conP P.c.lev P.c.clean P.c.keep P.c.client P.c.hasW P.c.topic P.c.text P.c.qos P.c.ret P.c.hasU P.c.user P.c.hasP P.c.pass) = r at *
    refine ⟨Hea.putB 1 0 r.1.length ++ r.1, 0, fun f c w ht hf hc => put16_ok_45 P (pkC 1 P.c) f c 0 w ht (fun w => clean_1 P f c w hk) (fun f c w => body_1 _ f c w rfl) (fun f c w => flags_1 _ f c w rfl) (Int.le_refl _) r.1 r.2 (fun f c w _ _ => way_con _ f c w _ _ hW) hm 1 0 rfl rfl hl.lt (by decide) hl.len, fun _ => ?_⟩
    rw [hcl]
    refine laid_of (by decide) hl.len hl.lt (fun w ht => ?_)
    have R := read_1 0 (r.1.length : Nat) (strB r.1) w (strB_le hl.len)
    rw [Con.txtL_strB2 hl.lt, hl.it] at R
    exact R
  · exact ⟨[], _, fun f c w ht hf hc => put16_err_45 P (pkC 1 P.c) f c 0 w ht (fun w => clean_1 P f c w hk) (fun f c w => body_1 _ f c w rfl) (fun f c w => flags_1 _ f c w rfl) (Int.le_refl _) _ _ (fun f c w _ _ => way_con _ f c w _ _ hW) hm, fun h => absurd h hm⟩
theorem putA_2 (P : Pk) (hk : P.kind = 2) : ∃ L m, PutA P L m := by
  have hcl : cln P = pkA 2 P.pres P.code := by unfold cln; rw [if_neg (by omega), if_pos hk]
  by_cases hm : Pub.ackE P.pres P.code = 0
  · have hc05 : 0 ≤ P.code ∧ P.code ≤ 5 := by
      unfold Pub.ackE at hm
      by_cases z : P.code < 0 ∨ 5 < P.code
      · rw [if_pos z] at hm; cases hm
      · omega
    obtain ⟨c, hc⟩ := Int.eq_ofNat_of_zero_le hc05.1
    have hm' := hm
    rw [hc] at hm
    have hc5 : c ≤ 5 := by omega
    have hW : ∀ W, Calls Tryd.prog 76 #[.bool (pkA 2 P.pres P.code).pres, .int .i64 (pkA 2 P.pres P.code).code] W (Pub.Numb (Pub.ackL P.pres c) 0 W) := fun W => by
      show Calls Tryd.prog 76 #[.bool P.pres, .int .i64 P.code] W _
      rw [hc]; exact Pub.putack_ok P.pres c W hm
    have hlt : ∀ x ∈ Pub.ackL P.pres c, x < 256 := by
      unfold Pub.ackL; intro x hx; simp at hx
      rcases hx with rfl | rfl
      · split <;> omega
      · omega
    have hlen : (Pub.ackL P.pres c).length ≤ 4096 := by unfold Pub.ackL; simp
    refine ⟨Hea.putB 2 0 (Pub.ackL P.pres c).length ++ Pub.ackL P.pres c, 0, fun f c' w ht hf hc => put16_ok_46 P (pkA 2 P.pres P.code) f c' 0 w ht (fun w => clean_2 P f c' w hk) (fun f c w => body_2 _ f c w rfl) (fun f c w => flags_2 _ f c w rfl) (Int.le_refl _) _ 0 (fun f c w _ _ => way_ack _ f c w _ _ hW) rfl 2 0 rfl rfl hlt (by decide) hlen, fun _ => ?_⟩
    rw [hcl]
    refine laid_of (by decide) hlen hlt (fun w ht => ?_)
    have R := read_2 0 ((Pub.ackL P.pres c).length : Nat) (strB (Pub.ackL P.pres c)) w
    have hE : Pub.ackF (strB (Pub.ackL P.pres c)) = (P.pres, P.code, 0) := by
      rw [hc]
      have hcc : c = 0 ∨ c = 1 ∨ c = 2 ∨ c = 3 ∨ c = 4 ∨ c = 5 := by omega
      cases hp : P.pres
      · rcases hcc with rfl | rfl | rfl | rfl | rfl | rfl <;> decide +kernel
      · rw [hp] at hm
        rcases hcc with rfl | rfl | rfl | rfl | rfl | rfl
        · decide +kernel
        all_goals exact absurd hm (by decide)
    rw [hE] at R
    exact R
  · have hW : ∀ W, Calls Tryd.prog 76 #[.bool (pkA 2 P.pres P.code).pres, .int .i64 (pkA 2 P.pres P.code).code] W (Pub.Numb [] (Pub.ackE P.pres P.code) W) := fun W => Pub.putack_err P.pres P.code _ W rfl hm
    exact ⟨[], _, fun f c w ht hf hc => put16_err_46 P (pkA 2 P.pres P.code) f c 0 w ht (fun w => clean_2 P f c w hk) (fun f c w => body_2 _ f c w rfl) (fun f c w => flags_2 _ f c w rfl) (Int.le_refl _) _ _ (fun f c w _ _ => way_ack _ f c w _ _ hW) hm, fun h => absurd h hm⟩
theorem putA_3 (P : Pk) (hk : P.kind = 3) (ok : P.ok) : ∃ L m, PutA P L m := by
  have hcl : cln P = pkM 3 (if 0 < P.q then P.id else 0) P.dup P.t P.x P.q P.r := by unfold cln; rw [if_neg (by omega), if_neg (by omega), if_pos hk]
  by_cases hfl : Hea.Pub P.dup P.q P.r < 0
  · exact ⟨[], 10, fun f c w ht hf hc => put16_flags P (pkM 3 (if 0 < P.q then P.id else 0) P.dup P.t P.x P.q P.r) f c (Hea.Pub P.dup P.q P.r) w ht (fun w => clean_3 P f c w hk) (fun f c w => body_3 _ f c w rfl) (fun f c w => flags_3 _ f c w rfl) hfl, by simp⟩
  obtain ⟨l, m, hW, hgood⟩ := Pub.pub_put P.t P.x P.q (if 0 < P.q then P.id else 0) P.r ok.x ok.t
  by_cases hm : m = 0
  · obtain ⟨nl, rfl, q0, q2, htp, hts, hrb, hn, hlen⟩ := hgood hm
    have hnl : ∀ y ∈ nl, y < 256 := by
      rcases hn with ⟨-, -, rfl⟩ | ⟨-, k, -, -, h2, rfl⟩
      · simp
      · intro y hy; simp at hy; omega
    have hlt := Pub.all_lt P.t P.x nl hts hnl
    have hback := fun W => Pub.of14_back P.t P.x P.q (if 0 < P.q then P.id else 0) nl q0 q2 htp hts hrb hn hlen W
    generalize rawL P.t ++ nl ++ txtL P.x = l at *
    obtain ⟨F, hF⟩ := Int.eq_ofNat_of_zero_le (show 0 ≤ Hea.Pub P.dup P.q P.r by omega)
    have hdq : ¬ (P.dup = true ∧ P.q = 0) := by
      intro h
      unfold Hea.Pub at hfl
      rw [if_pos (.inr (.inr h))] at hfl
      exact hfl (by decide)
    have hval : Hea.Pub P.dup P.q P.r = 2 * P.q + (if P.dup then 8 else 0) + (if P.r then 1 else 0) := by
      unfold Hea.Pub
      rw [if_neg (by rintro (h | h | h)
                     · omega
                     · omega
                     · exact hdq h)]
    have hq3 : P.q = 0 ∨ P.q = 1 ∨ P.q = 2 := by omega
    have hMB : Hea.MayBe (F : Int) ∧ Hea.Tell F = .tuple #[.bool P.dup, .int .i64 P.q, .bool P.r] ∧ Hea.RightF 3 F = 0 := by
      rw [← hF, hval]
      cases hd : P.dup
      · cases hr : P.r
        · rcases hq3 with h | h | h <;> rw [h] <;> exact ⟨by unfold Hea.MayBe; decide, by unfold Hea.Tell; kernel_rfl, by decide⟩
        · rcases hq3 with h | h | h <;> rw [h] <;> exact ⟨by unfold Hea.MayBe; decide, by unfold Hea.Tell; kernel_rfl, by decide⟩
      · cases hr : P.r
        · rcases hq3 with h | h | h
          · exact absurd ⟨hd, h⟩ hdq
          all_goals rw [h]; exact ⟨by unfold Hea.MayBe; decide, by unfold Hea.Tell; kernel_rfl, by decide⟩
        · rcases hq3 with h | h | h
          · exact absurd ⟨hd, h⟩ hdq
          all_goals rw [h]; exact ⟨by unfold Hea.MayBe; decide, by unfold Hea.Tell; kernel_rfl, by decide⟩
    obtain ⟨hMB, hTell, hR3⟩ := hMB
    refine ⟨Hea.putB 3 F l.length ++ l, 0, fun f c w ht hf hc => put16_ok_47 P (pkM 3 (if 0 < P.q then P.id else 0) P.dup P.t P.x P.q P.r) f c (Hea.Pub P.dup P.q P.r) w ht (fun w => clean_3 P f c w hk) (fun f c w => body_3 _ f c w rfl) (fun f c w => flags_3 _ f c w rfl) (by omega) l m (fun f c w _ _ => way_pub _ f c w _ _ hW) hm 3 F rfl hF hlt hR3 hlen, fun _ => ?_⟩
    rw [hcl]
    refine laid_of hR3 hlen hlt (fun w ht => ?_)
    exact read_3 F (l.length : Nat) (strB l) w ht P.dup P.q P.r P.t P.x P.q _ 0 (fun W hT => by rw [← hTell]; exact Hea.told_ok F W hT.tab hMB) (fun W => hback W)
  · exact ⟨[], m, fun f c w ht hf hc => put16_err_47 P (pkM 3 (if 0 < P.q then P.id else 0) P.dup P.t P.x P.q P.r) f c (Hea.Pub P.dup P.q P.r) w ht (fun w => clean_3 P f c w hk) (fun f c w => body_3 _ f c w rfl) (fun f c w => flags_3 _ f c w rfl) (by omega) l m (fun f c w _ _ => way_pub _ f c w _ _ hW) hm, fun h => absurd h hm⟩
theorem putA_4 (P : Pk) (hk : P.kind = 4) : ∃ L m, PutA P L m := by
  have hcl : cln P = pkI 4 P.id := by unfold cln; rw [if_neg (by omega), if_neg (by omega), if_neg (by omega), if_pos (by omega), hk]
  by_cases hid : P.id < 1 ∨ 65535 < P.id
  · have hW : ∀ W, Calls Tryd.prog 78 #[.int .i64 (pkI 4 P.id).id] W (Pub.Numb [] 1 W) := fun W => Pub.pid_bad P.id W hid
    exact ⟨[], 1, fun f c w ht hf hc => put16_err_48 P (pkI 4 P.id) f c 0 w ht (fun w => clean_4 P f c w hk) (fun f c w => body_4 _ f c w rfl) (fun f c w => flags_4 _ f c w rfl) (by decide) [] 1 (fun f c w _ _ => way_id _ f c w _ _ hW) (by decide), by simp⟩
  · obtain ⟨n, hn⟩ := Int.eq_ofNat_of_zero_le (show 0 ≤ P.id by omega)
    have h1 : 1 ≤ n := by omega
    have h2 : n ≤ 65535 := by omega
    have hW : ∀ W, Calls Tryd.prog 78 #[.int .i64 (pkI 4 P.id).id] W (Pub.Numb [n / 256, n % 256] 0 W) := fun W => by
      show Calls Tryd.prog 78 #[.int .i64 P.id] W _
      rw [hn]; exact Pub.pid_good n W h1 h2
    have hlt : ∀ x ∈ [n / 256, n % 256], x < 256 := by intro x hx; simp at hx; omega
    refine ⟨Hea.putB 4 0 [n / 256, n % 256].length ++ [n / 256, n % 256], 0, fun f c w ht hf hc => put16_ok_48 P (pkI 4 P.id) f c 0 w ht (fun w => clean_4 P f c w hk) (fun f c w => body_4 _ f c w rfl) (fun f c w => flags_4 _ f c w rfl) (by decide) _ 0 (fun f c w _ _ => way_id _ f c w _ _ hW) rfl 4 0 rfl rfl hlt (by decide) (by simp), fun _ => ?_⟩
    rw [hcl, hn]
    refine laid_of (by decide) (by simp) hlt (fun w ht => ?_)
    have R := read_4 0 ([n / 256, n % 256].length : Nat) (strB [n / 256, n % 256]) w (strB_le (by simp))
    rw [Pub.of_made n h1 h2] at R
    exact R
theorem putA_5 (P : Pk) (hk : P.kind = 5) : ∃ L m, PutA P L m := by
  have hcl : cln P = pkI 5 P.id := by unfold cln; rw [if_neg (by omega), if_neg (by omega), if_neg (by omega), if_pos (by omega), hk]
  by_cases hid : P.id < 1 ∨ 65535 < P.id
  · have hW : ∀ W, Calls Tryd.prog 78 #[.int .i64 (pkI 5 P.id).id] W (Pub.Numb [] 1 W) := fun W => Pub.pid_bad P.id W hid
    exact ⟨[], 1, fun f c w ht hf hc => put16_err_48 P (pkI 5 P.id) f c 0 w ht (fun w => clean_5 P f c w hk) (fun f c w => body_5 _ f c w rfl) (fun f c w => flags_5 _ f c w rfl) (by decide) [] 1 (fun f c w _ _ => way_id _ f c w _ _ hW) (by decide), by simp⟩
  · obtain ⟨n, hn⟩ := Int.eq_ofNat_of_zero_le (show 0 ≤ P.id by omega)
    have h1 : 1 ≤ n := by omega
    have h2 : n ≤ 65535 := by omega
    have hW : ∀ W, Calls Tryd.prog 78 #[.int .i64 (pkI 5 P.id).id] W (Pub.Numb [n / 256, n % 256] 0 W) := fun W => by
      show Calls Tryd.prog 78 #[.int .i64 P.id] W _
      rw [hn]; exact Pub.pid_good n W h1 h2
    have hlt : ∀ x ∈ [n / 256, n % 256], x < 256 := by intro x hx; simp at hx; omega
    refine ⟨Hea.putB 5 0 [n / 256, n % 256].length ++ [n / 256, n % 256], 0, fun f c w ht hf hc => put16_ok_48 P (pkI 5 P.id) f c 0 w ht (fun w => clean_5 P f c w hk) (fun f c w => body_5 _ f c w rfl) (fun f c w => flags_5 _ f c w rfl) (by decide) _ 0 (fun f c w _ _ => way_id _ f c w _ _ hW) rfl 5 0 rfl rfl hlt (by decide) (by simp), fun _ => ?_⟩
    rw [hcl, hn]
    refine laid_of (by decide) (by simp) hlt (fun w ht => ?_)
    have R := read_5 0 ([n / 256, n % 256].length : Nat) (strB [n / 256, n % 256]) w (strB_le (by simp))
    rw [Pub.of_made n h1 h2] at R
    exact R
theorem putA_6 (P : Pk) (hk : P.kind = 6) : ∃ L m, PutA P L m := by
  have hcl : cln P = pkI 6 P.id := by unfold cln; rw [if_neg (by omega), if_neg (by omega), if_neg (by omega), if_pos (by omega), hk]
  by_cases hid : P.id < 1 ∨ 65535 < P.id
  · have hW : ∀ W, Calls Tryd.prog 78 #[.int .i64 (pkI 6 P.id).id] W (Pub.Numb [] 1 W) := fun W => Pub.pid_bad P.id W hid
    exact ⟨[], 1, fun f c w ht hf hc => put16_err_48 P (pkI 6 P.id) f c 2 w ht (fun w => clean_6 P f c w hk) (fun f c w => body_6 _ f c w rfl) (fun f c w => flags_6 _ f c w rfl) (by decide) [] 1 (fun f c w _ _ => way_id _ f c w _ _ hW) (by decide), by simp⟩
  · obtain ⟨n, hn⟩ := Int.eq_ofNat_of_zero_le (show 0 ≤ P.id by omega)
    have h1 : 1 ≤ n := by omega
    have h2 : n ≤ 65535 := by omega
    have hW : ∀ W, Calls Tryd.prog 78 #[.int .i64 (pkI 6 P.id).id] W (Pub.Numb [n / 256, n % 256] 0 W) := fun W => by
      show Calls Tryd.prog 78 #[.int .i64 P.id] W _
      rw [hn]; exact Pub.pid_good n W h1 h2
    have hlt : ∀ x ∈ [n / 256, n % 256], x < 256 := by intro x hx; simp at hx; omega
    refine ⟨Hea.putB 6 2 [n / 256, n % 256].length ++ [n / 256, n % 256], 0, fun f c w ht hf hc => put16_ok_48 P (pkI 6 P.id) f c 2 w ht (fun w => clean_6 P f c w hk) (fun f c w => body_6 _ f c w rfl) (fun f c w => flags_6 _ f c w rfl) (by decide) _ 0 (fun f c w _ _ => way_id _ f c w _ _ hW) rfl 6 2 rfl rfl hlt (by decide) (by simp), fun _ => ?_⟩
    rw [hcl, hn]
    refine laid_of (by decide) (by simp) hlt (fun w ht => ?_)
    have R := read_6 2 ([n / 256, n % 256].length : Nat) (strB [n / 256, n % 256]) w (strB_le (by simp))
    rw [Pub.of_made n h1 h2] at R
    exact R
theorem putA_7 (P : Pk) (hk : P.kind = 7) : ∃ L m, PutA P L m := by
  have hcl : cln P = pkI 7 P.id := by unfold cln; rw [if_neg (by omega), if_neg (by omega), if_neg (by omega), if_pos (by omega), hk]
  by_cases hid : P.id < 1 ∨ 65535 < P.id
  · have hW : ∀ W, Calls Tryd.prog 78 #[.int .i64 (pkI 7 P.id).id] W (Pub.Numb [] 1 W) := fun W => Pub.pid_bad P.id W hid
    exact ⟨[], 1, fun f c w ht hf hc => put16_err_48 P (pkI 7 P.id) f c 0 w ht (fun w => clean_7 P f c w hk) (fun f c w => body_7 _ f c w rfl) (fun f c w => flags_7 _ f c w rfl) (by decide) [] 1 (fun f c w _ _ => way_id _ f c w _ _ hW) (by decide), by simp⟩
  · obtain ⟨n, hn⟩ := Int.eq_ofNat_of_zero_le (show 0 ≤ P.id by omega)
    have h1 : 1 ≤ n := by omega
    have h2 : n ≤ 65535 := by omega
    have hW : ∀ W, Calls Tryd.prog 78 #[.int .i64 (pkI 7 P.id).id] W (Pub.Numb [n / 256, n % 256] 0 W) := fun W => by
      show Calls Tryd.prog 78 #[.int .i64 P.id] W _
      rw [hn]; exact Pub.pid_good n W h1 h2
    have hlt : ∀ x ∈ [n / 256, n % 256], x < 256 := by intro x hx; simp at hx; omega
    refine ⟨Hea.putB 7 0 [n / 256, n % 256].length ++ [n / 256, n % 256], 0, fun f c w ht hf hc => put16_ok_48 P (pkI 7 P.id) f c 0 w ht (fun w => clean_7 P f c w hk) (fun f c w => body_7 _ f c w rfl) (fun f c w => flags_7 _ f c w rfl) (by decide) _ 0 (fun f c w _ _ => way_id _ f c w _ _ hW) rfl 7 0 rfl rfl hlt (by decide) (by simp), fun _ => ?_⟩
    rw [hcl, hn]
    refine laid_of (by decide) (by simp) hlt (fun w ht => ?_)
    have R := read_7 0 ([n / 256, n % 256].length : Nat) (strB [n / 256, n % 256]) w (strB_le (by simp))
    rw [Pub.of_made n h1 h2] at R
    exact R
theorem putA_11 (P : Pk) (hk : P.kind = 11) : ∃ L m, PutA P L m := by
  have hcl : cln P = pkI 11 P.id := by unfold cln; rw [if_neg (by omega), if_neg (by omega), if_neg (by omega), if_pos (by omega), hk]
  by_cases hid : P.id < 1 ∨ 65535 < P.id
  · have hW : ∀ W, Calls Tryd.prog 78 #[.int .i64 (pkI 11 P.id).id] W (Pub.Numb [] 1 W) := fun W => Pub.pid_bad P.id W hid
    exact ⟨[], 1, fun f c w ht hf hc => put16_err_48 P (pkI 11 P.id) f c 0 w ht (fun w => clean_11 P f c w hk) (fun f c w => body_11 _ f c w rfl) (fun f c w => flags_11 _ f c w rfl) (by decide) [] 1 (fun f c w _ _ => way_id _ f c w _ _ hW) (by decide), by simp⟩
  · obtain ⟨n, hn⟩ := Int.eq_ofNat_of_zero_le (show 0 ≤ P.id by omega)
    have h1 : 1 ≤ n := by omega
    have h2 : n ≤ 65535 := by omega
    have hW : ∀ W, Calls Tryd.prog 78 #[.int .i64 (pkI 11 P.id).id] W (Pub.Numb [n / 256, n % 256] 0 W) := fun W => by
      show Calls Tryd.prog 78 #[.int .i64 P.id] W _
      rw [hn]; exact Pub.pid_good n W h1 h2
    have hlt : ∀ x ∈ [n / 256, n % 256], x < 256 := by intro x hx; simp at hx; omega
    refine ⟨Hea.putB 11 0 [n / 256, n % 256].length ++ [n / 256, n % 256], 0, fun f c w ht hf hc => put16_ok_48 P (pkI 11 P.id) f c 0 w ht (fun w => clean_11 P f c w hk) (fun f c w => body_11 _ f c w rfl) (fun f c w => flags_11 _ f c w rfl) (by decide) _ 0 (fun f c w _ _ => way_id _ f c w _ _ hW) rfl 11 0 rfl rfl hlt (by decide) (by simp), fun _ => ?_⟩
    rw [hcl, hn]
    refine laid_of (by decide) (by simp) hlt (fun w ht => ?_)
    have R := read_11 0 ([n / 256, n % 256].length : Nat) (strB [n / 256, n % 256]) w (strB_le (by simp))
    rw [Pub.of_made n h1 h2] at R
    exact R
theorem putA_8 (P : Pk) (hk : P.kind = 8) (ok : P.ok) : ∃ L m, PutA P L m := by
  have hcl : cln P = pkF 8 P.id P.fl := by unfold cln; rw [if_neg (by omega), if_neg (by omega), if_neg (by omega), if_neg (by omega), if_pos (by omega)]
  have hC : ∀ f c w, FisAt w f P.fl → Calls Tryd.prog 14 #[.agg (P.v f c)] w (ClP (pkF 8 P.id P.fl) w) := fun f c w hf => by
    exact clean_8 P f c w hk hf (by have := ok.nf; omega)
  have hfk : ∀ g ∈ P.fl, g.ok := ok.fi
  have hW : ∀ f c w, FisAt w f P.fl → Calls Tryd.prog 49 #[.agg ((pkF 8 P.id P.fl).v f c)] w (Pub.Numb (putLs P.id P.fl false) (putE P.id P.fl false) w) := fun f c w hf => by
    obtain ⟨a, cap, rfl, h⟩ := hf
    exact way_sub (pkF 8 P.id P.fl) _ c w _ _ a _ cap rfl (fun W hB => put9_any P.id _ P.fl false W ok.id (FisAt.keep (w := w) ⟨a, cap, rfl, h⟩ hB (Nat.le_refl _)) hfk)
  by_cases hm : putE P.id P.fl false = 0
  · have hb := subs_back hm
    have hlt : ∀ x ∈ putLs P.id P.fl false, x < 256 := by
      have hfz := putE_zero2 hm
      unfold putLs; rw [if_pos hm]
      intro x hx
      rcases List.mem_append.1 hx with hx | hx
      · simp at hx; omega
      · exact fisL_lt hfz.2 x hx
    have hlen : (putLs P.id P.fl false).length ≤ 4096 := by have := hb.2.1; rwa [strB_size] at this
    refine ⟨Hea.putB 8 2 (putLs P.id P.fl false).length ++ putLs P.id P.fl false, 0, fun f c w ht hf hc => put16_ok_49 P (pkF 8 P.id P.fl) f c 2 w ht (fun w' hB => hC f c w' (hf.keep hB (Nat.le_refl _))) (fun f c w => body_8 _ f c w rfl) (fun f c w => flags_8 _ f c w rfl) (by decide) _ _ (fun f c w hf _ => hW f c w hf) hm 8 2 rfl rfl hlt (by decide) hlen, fun _ => ?_⟩
    rw [hcl]
    refine laid_of (by decide) hlen hlt (fun w ht => ?_)
    have R := read_8 2 ((putLs P.id P.fl false).length : Nat) (strB (putLs P.id P.fl false)) w (strB_le hlen)
    rw [hb.1] at R
    rw [show P.fl.map (bk false) = P.fl from List.map_id _] at R
    exact R
  · have hnil : putLs P.id P.fl false = [] := by unfold putLs; rw [if_neg hm]
    rw [hnil] at hW
    exact ⟨[], _, fun f c w ht hf hc => put16_err_49 P (pkF 8 P.id P.fl) f c 2 w ht (fun w' hB => hC f c w' (hf.keep hB (Nat.le_refl _))) (fun f c w => body_8 _ f c w rfl) (fun f c w => flags_8 _ f c w rfl) (by decide) _ _ (fun f c w hf _ => hW f c w hf) hm, fun h => absurd h hm⟩
theorem putA_10 (P : Pk) (hk : P.kind = 10) (ok : P.ok) : ∃ L m, PutA P L m := by
  have hcl : cln P = pkF 10 P.id (P.fl.map stp0) := by unfold cln; rw [if_neg (by omega), if_neg (by omega), if_neg (by omega), if_neg (by omega), if_neg (by omega), if_neg (by omega), if_pos (by omega)]
  have hC : ∀ f c w, FisAt w f P.fl → Calls Tryd.prog 14 #[.agg (P.v f c)] w (ClP (pkF 10 P.id (P.fl.map stp0)) w) := fun f c w hf => by
    obtain ⟨a, cap, rfl, h⟩ := hf; exact clean_10 P a cap c w hk ⟨a, cap, rfl, h⟩ (by have := ok.nf; omega)
  have hfk : ∀ g ∈ (P.fl.map stp0), g.ok := fun g hg => by obtain ⟨g0, h0, rfl⟩ := List.mem_map.1 hg; exact ⟨(ok.fi g0 h0).1, by show (_ : Int) ≤ 0; decide, by show (0 : Int) ≤ _; decide⟩
  have hW : ∀ f c w, FisAt w f (P.fl.map stp0) → Calls Tryd.prog 49 #[.agg ((pkF 10 P.id (P.fl.map stp0)).v f c)] w (Pub.Numb (putLs P.id (P.fl.map stp0) true) (putE P.id (P.fl.map stp0) true) w) := fun f c w hf => by
    obtain ⟨a, cap, rfl, h⟩ := hf
    exact way_sub (pkF 10 P.id (P.fl.map stp0)) _ c w _ _ a _ cap rfl (fun W hB => put9_any P.id _ (P.fl.map stp0) true W ok.id (FisAt.keep (w := w) ⟨a, cap, rfl, h⟩ hB (Nat.le_refl _)) hfk)
  by_cases hm : putE P.id (P.fl.map stp0) true = 0
  · have hb := subs_back hm
    have hlt : ∀ x ∈ putLs P.id (P.fl.map stp0) true, x < 256 := by
      have hfz := putE_zero2 hm
      unfold putLs; rw [if_pos hm]
      intro x hx
      rcases List.mem_append.1 hx with hx | hx
      · simp at hx; omega
      · exact fisL_lt hfz.2 x hx
    have hlen : (putLs P.id (P.fl.map stp0) true).length ≤ 4096 := by have := hb.2.1; rwa [strB_size] at this
    refine ⟨Hea.putB 10 2 (putLs P.id (P.fl.map stp0) true).length ++ putLs P.id (P.fl.map stp0) true, 0, fun f c w ht hf hc => put16_ok_49 P (pkF 10 P.id (P.fl.map stp0)) f c 2 w ht (fun w' hB => hC f c w' (hf.keep hB (Nat.le_refl _))) (fun f c w => body_10 _ f c w rfl) (fun f c w => flags_10 _ f c w rfl) (by decide) _ _ (fun f c w hf _ => hW f c w hf) hm 10 2 rfl rfl hlt (by decide) hlen, fun _ => ?_⟩
    rw [hcl]
    refine laid_of (by decide) hlen hlt (fun w ht => ?_)
    have R := read_10 2 ((putLs P.id (P.fl.map stp0) true).length : Nat) (strB (putLs P.id (P.fl.map stp0) true)) w (strB_le hlen)
    rw [hb.1] at R
    rw [show (P.fl.map stp0).map (bk true) = P.fl.map stp0 from by rw [List.map_map]; rfl] at R
    exact R
  · have hnil : putLs P.id (P.fl.map stp0) true = [] := by unfold putLs; rw [if_neg hm]
    rw [hnil] at hW
    exact ⟨[], _, fun f c w ht hf hc => put16_err_49 P (pkF 10 P.id (P.fl.map stp0)) f c 2 w ht (fun w' hB => hC f c w' (hf.keep hB (Nat.le_refl _))) (fun f c w => body_10 _ f c w rfl) (fun f c w => flags_10 _ f c w rfl) (by decide) _ _ (fun f c w hf _ => hW f c w hf) hm, fun h => absurd h hm⟩
theorem putA_9 (P : Pk) (hk : P.kind = 9) (ok : P.ok) : ∃ L m, PutA P L m := by
  have hcl : cln P = pkS 9 P.id P.cl := by unfold cln; rw [if_neg (by omega), if_neg (by omega), if_neg (by omega), if_neg (by omega), if_neg (by omega), if_pos (by omega)]
  have hC : ∀ f c w, IntsAt w c P.cl → Calls Tryd.prog 14 #[.agg (P.v f c)] w (ClP (pkS 9 P.id P.cl) w) := fun f c w hc => clean_9 P f c w hk hc (by have := ok.nc; omega)
  have hW : ∀ f c w, IntsAt w c P.cl → Calls Tryd.prog 50 #[.agg ((pkS 9 P.id P.cl).v f c)] w (Pub.Numb (ackL P.id P.cl) (ackE P.id P.cl) w) := fun f c w hc => by
    obtain ⟨a, cap, rfl, h⟩ := hc
    exact way_sua (pkS 9 P.id P.cl) f _ w _ _ a _ cap rfl (fun W hB => ack15_any P.id _ P.cl W ok.id (IntsAt.keep (w := w) ⟨a, cap, rfl, h⟩ hB (Nat.le_refl _)))
  by_cases hm : ackE P.id P.cl = 0
  · have hb := ack_back hm
    have hlt : ∀ x ∈ ackL P.id P.cl, x < 256 := by
      have hz : beginE P.id P.cl.length = 0 ∧ P.cl.all codeB = true := by
        unfold ackE at hm
        by_cases z : beginE P.id P.cl.length ≠ 0
        · rw [if_pos z] at hm; exact absurd hm z
        · rw [if_neg z] at hm
          refine ⟨by simpa using z, ?_⟩
          by_cases y : P.cl.all codeB = true
          · exact y
          · rw [if_neg y] at hm; cases hm
      have hbz := begin_zero (n := (P.cl.length : Int)) (by omega) hz.1
      unfold ackL; rw [if_pos hm]
      intro x hx
      rcases List.mem_append.1 hx with hx | hx
      · simp at hx; omega
      · obtain ⟨c, hc, rfl⟩ := List.mem_map.1 hx
        have := codeB_lo (List.all_eq_true.1 hz.2 c hc)
        omega
    have hlen : (ackL P.id P.cl).length ≤ 4096 := by have := hb.2; rw [strB_size] at this; omega
    refine ⟨Hea.putB 9 0 (ackL P.id P.cl).length ++ ackL P.id P.cl, 0, fun f c w ht hf hc => put16_ok_50 P (pkS 9 P.id P.cl) f c 0 w ht (fun w' hB => hC f c w' (hc.keep hB (Nat.le_refl _))) (fun f c w => body_9 _ f c w rfl) (fun f c w => flags_9 _ f c w rfl) (by decide) _ _ (fun f c w _ hc => hW f c w hc) hm 9 0 rfl rfl hlt (by decide) hlen, fun _ => ?_⟩
    rw [hcl]
    refine laid_of (by decide) hlen hlt (fun w ht => ?_)
    have R := read_9 0 ((ackL P.id P.cl).length : Nat) (strB (ackL P.id P.cl)) w (strB_le hlen)
    rw [hb.1] at R
    exact R
  · have hnil : ackL P.id P.cl = [] := by unfold ackL; rw [if_neg hm]
    rw [hnil] at hW
    exact ⟨[], _, fun f c w ht hf hc => put16_err_50 P (pkS 9 P.id P.cl) f c 0 w ht (fun w' hB => hC f c w' (hc.keep hB (Nat.le_refl _))) (fun f c w => body_9 _ f c w rfl) (fun f c w => flags_9 _ f c w rfl) (by decide) _ _ (fun f c w _ hc => hW f c w hc) hm, fun h => absurd h hm⟩
theorem putA_12 (P : Pk) (hk : P.kind = 12) : ∃ L m, PutA P L m := by
  have hcl : cln P = pk0 12 := by unfold cln; rw [if_neg (by omega), if_neg (by omega), if_neg (by omega), if_neg (by omega), if_neg (by omega), if_neg (by omega), if_neg (by omega), hk]
  refine ⟨Hea.putB 12 0 ([] : List Nat).length ++ [], 0, fun f c w ht hf hc => put16_ok_51 P (pk0 12) f c 0 w ht (fun w => clean_12 P f c w hk) (fun f c w => body_12 _ f c w rfl) (fun f c w => flags_12 _ f c w rfl) (by decide) [] 0 (fun f c w _ _ => way_none _ w) rfl 12 0 rfl rfl (by simp) (by decide) (by simp), fun _ => ?_⟩
  rw [hcl]
  exact laid_of (by decide) (by simp) (by simp) (fun w ht => read_12z 0 _ w)
theorem putA_13 (P : Pk) (hk : P.kind = 13) : ∃ L m, PutA P L m := by
  have hcl : cln P = pk0 13 := by unfold cln; rw [if_neg (by omega), if_neg (by omega), if_neg (by omega), if_neg (by omega), if_neg (by omega), if_neg (by omega), if_neg (by omega), hk]
  refine ⟨Hea.putB 13 0 ([] : List Nat).length ++ [], 0, fun f c w ht hf hc => put16_ok_51 P (pk0 13) f c 0 w ht (fun w => clean_13 P f c w hk) (fun f c w => body_13 _ f c w rfl) (fun f c w => flags_13 _ f c w rfl) (by decide) [] 0 (fun f c w _ _ => way_none _ w) rfl 13 0 rfl rfl (by simp) (by decide) (by simp), fun _ => ?_⟩
  rw [hcl]
  exact laid_of (by decide) (by simp) (by simp) (fun w ht => read_13z 0 _ w)
theorem putA_14 (P : Pk) (hk : P.kind = 14) : ∃ L m, PutA P L m := by
  have hcl : cln P = pk0 14 := by unfold cln; rw [if_neg (by omega), if_neg (by omega), if_neg (by omega), if_neg (by omega), if_neg (by omega), if_neg (by omega), if_neg (by omega), hk]
  refine ⟨Hea.putB 14 0 ([] : List Nat).length ++ [], 0, fun f c w ht hf hc => put16_ok_51 P (pk0 14) f c 0 w ht (fun w => clean_14 P f c w hk) (fun f c w => body_14 _ f c w rfl) (fun f c w => flags_14 _ f c w rfl) (by decide) [] 0 (fun f c w _ _ => way_none _ w) rfl 14 0 rfl rfl (by simp) (by decide) (by simp), fun _ => ?_⟩
  rw [hcl]
  exact laid_of (by decide) (by simp) (by simp) (fun w ht => read_14z 0 _ w)
theorem putA_x (P : Pk) (hk : P.kind < 1 ∨ 14 < P.kind) : ∃ L m, PutA P L m :=
  ⟨[], 11, fun f c w ht hf hc => put16_kind P (pk0 P.kind) f c 0 w ht (fun w => clean_x P f c w hk) (fun f c w => body_x _ f c w hk) (fun f c w => flags_x _ f c w hk), by simp⟩
/-- Put of any packet. -/
theorem putA_any (P : Pk) (ok : P.ok) : ∃ L m, PutA P L m := by
  rcases (show (P.kind < 1 ∨ 14 < P.kind) ∨ P.kind = 1 ∨ P.kind = 2 ∨ P.kind = 3 ∨ P.kind = 4 ∨ P.kind = 5 ∨ P.kind = 6 ∨ P.kind = 7 ∨ P.kind = 8 ∨ P.kind = 9 ∨ P.kind = 10 ∨ P.kind = 11 ∨ P.kind = 12 ∨ P.kind = 13 ∨ P.kind = 14 by omega) with h | h | h | h | h | h | h | h | h | h | h | h | h | h | h
  · exact putA_x P h
  · exact putA_1 P h ok
  · exact putA_2 P h
  · exact putA_3 P h ok
  · exact putA_4 P h
  · exact putA_5 P h
  · exact putA_6 P h
  · exact putA_7 P h
  · exact putA_8 P h ok
  · exact putA_9 P h ok
  · exact putA_10 P h ok
  · exact putA_11 P h
  · exact putA_12 P h
  · exact putA_13 P h
  · exact putA_14 P h
end Go.Proofs.YtmpklaokgogigaaDoor.Pac

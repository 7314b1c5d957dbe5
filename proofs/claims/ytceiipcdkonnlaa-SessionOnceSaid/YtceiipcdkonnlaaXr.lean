/-
  LAYER 25: rows of texts; what was sent and what is to be sent, round by round; the beginning and the end.
-/
import Derived.Test.YtceiipcdkonnlaaXt
import Derived.Test.YtceiipcdkonnlaaByt
import Derived.Test.YtceiipcdkonnlaaBl
namespace Go.Proofs.Ytceiipcdkonnlaa.Ses
open Go.RowKit Que Hp Ids Fli
set_option linter.unusedSimpArgs false
set_option linter.unusedVariables false
def tC : ByteArray := ⟨#[99]⟩
theorem tC_ne : tC.toList.isEmpty = false := by decide +kernel
theorem tC_right : rightB tC = true := by decide +kernel
theorem grown_refl (w : World) (r : Option Nat) : w.grownBy w r := ⟨rfl, rfl, rfl, Nat.le_refl _, fun _ _ _ => rfl⟩
/-- One's own row behind another, nil or not. -/
theorem wpList_append_rows {w : World} {ops : Array Oper} {rest : List Oper} {o : Oper} {a : Act} {Q : Exit → Act → World → Prop} (hgd : o.guard = none) (s x : Operand) (t : TypeId)
    (ho : o.op = .call { callee := .builtin .append, args := #[s, x], argTypes := #[t, t] })
    (base base' : Nat) (e : TypeId) (i : TypeInfo) (z : Value) (size bytes : Nat) (ht : Try.prog.underlying t = some (.slice e)) (hi : Try.prog.info? e = some i) (hz : i.zero = some z)
    (hsize : i.size = size) (hby : i.bytes = bytes) (hzs : z.cells.size = size) (hsz : 0 < size)
    (v : Value) (n : Nat) (xs : List Value) (hs : a.eval s = v) (hown : w.ownsRow base e size v n xs)
    (vx : Value) (m : Nat) (ys : List Value) (hx : a.eval x = vx) (hox : w.ownsRow base' e size vx m ys) (h1 : ∀ u ∈ ys, u.oneCell' = true)
    (h63 : n + m ≤ maxLen) (hbytes : (n + m) * bytes ≤ 140737488355328) (hbase : base ≤ w.heap.size)
    (h : ∀ v' w', w'.ownsRow base e size v' (n + m) (xs ++ ys) → w.grownBy w' v.ownBlock → (v'.ownBlock = v.ownBlock ∨ v'.ownBlock = some w.heap.size) → wpList Try.prog ops Q rest (a.put o.dst v') w') :
    wpList Try.prog ops Q (o :: rest) a w := by
  have hlen := hox.1
  rcases hox.2 with ⟨rfl, hn⟩ | ⟨g, cap, cur, rfl, -⟩
  · subst hn
    have hys : ys = [] := List.eq_nil_of_length_eq_zero (by rw [hlen, Nat.zero_mul])
    subst hys
    refine wpList_append_own_none hgd s x t ho base e i size ht hi v n xs hs hown hx ?_
    exact h v w (by simpa using hown) (grown_refl _ _) (.inl rfl)
  · exact wpList_append_own_at w hgd s x t ho base e i z size bytes ht hi hz hsize hby hzs hsz v n xs hs hown ⟨g, 0, none⟩ m cap ys hx hlen (fun j u hj => by rw [add_off', Nat.zero_add]; exact own_get hox hj) h1 h63 hbytes hbase (fun v' w' o' g' _ hat => h v' w' o' g' hat)
theorem stL_one (G : List ByteArray) : ∀ u ∈ stL G, u.oneCell' = true := by
  intro u hu
  obtain ⟨s, -, rfl⟩ := List.mem_map.1 hu
  rfl
section
variable {A : Nat → Prop} {w : World} {a : Ad} {cl : ByteArray} {cn on : Bool} {T : List Bool} {L : List Se} {l : List Mg} {lost : Int}
theorem s_detach (h : Ss A w a cl cn on T L l lost) : Calls Try.prog 12 #[.pointer (some ⟨a.s, 0, none⟩)] w fun e w' => e = .returned (.bool on) ∧ Ss A w' a cl cn false T L l lost ∧ Kp A w w' := by
  have N := Lib.hid (s_online h)
  obtain ⟨S1, K1⟩ := h.line false
  have s2 := h.s2
  have fz := h.fz 2
  replace S1 := Lib.hid S1
  replace K1 := Lib.hid K1
  have H := Lib.hid h
  clear h
  cases on with
  | true =>
    go_enter Try.func12, Try.ntmps12
    go_wp2_with fail
    refine N.out.mono ?_
    rintro e w1 ⟨rfl, rfl⟩
    go_wp2_with fail
    go_ret
    exact ⟨rfl, S1.out, K1.out⟩
  | false =>
    go_enter Try.func12, Try.ntmps12
    go_wp2_with fail
    refine N.out.mono ?_
    rintro e w1 ⟨rfl, rfl⟩
    go_wp2_with fail
    go_ret
    exact ⟨rfl, H.out, Far.refl _ _⟩
end
theorem fl_all {on : Bool} {T T' : List Bool} {L L' P : List Se} {l l' : List Mg} (ql : ∀ m ∈ l, m.a2 = 1 ∨ m.a2 = 2) (e : fl on T L l = (T', L', l', P)) : px P ++ tx l' = tx l ∧ L' = L ++ P ∧ (inv1 L → inv1 L') ∧ (on = true → L.length ≤ 8 → l' = [] ∨ L'.length = 8) ∧ P.length + l'.length = l.length := by
  obtain ⟨f1, f2, f3⟩ := fl_spec on l T L ql
  have fln := fl_ln on l T L
  rw [e] at f1 f2 f3 fln
  simp only at f1 f2 f3 fln
  refine ⟨f2, f1, fun h => by rw [f1]; exact inv1_append h (inv1_of f3), fun ho hL => ?_, fln⟩
  subst ho
  have ff := fl_full l T L hL
  rw [e] at ff
  exact ff
structure On (w W : World) (a : Ad) (on : Bool) (T : List Bool) (L : List Se) (l : List Mg) (lost : Int) (B : Nat → Prop) (vg vw : Value) (G Wt X : List ByteArray) (i : Nat) : Prop where
  pg : Pu B w.heap.size W a tC false on T L l lost vg G
  hB : ∀ k, k < w.heap.size ∨ vw.ownBlock = some k → B k
  rw : W.ownsRow w.heap.size 9 1 vw Wt.length (stL Wt)
  bw : Below w.heap.size w W
  tx : G ++ tx l = Wt ++ X
  iL : inv1 L
  full : on = true → l = [] ∨ L.length = 8
  lo : lost = (i : Int) - ((Wt.length + X.length : Nat) : Int)
  wi : Wt.length + X.length ≤ i
section
variable {w W w1 w2 w3 W6 w7 : World} {a : Ad} {on on' : Bool} {T T' : List Bool} {L L' P : List Se} {l l' : List Mg} {lost lost' : Int} {B B' : Nat → Prop} {vg vw v1 v3 : Value} {G G3 Wt X X' : List ByteArray} {i i' : Nat}
theorem On.ext (I : On w W a on T L l lost B vg vw G Wt X i) (b : Below W.heap.size W w1) : On w w1 a on T L l lost B vg vw G Wt X i :=
  ⟨I.pg.ext b, I.hB, own_keep I.rw b, I.bw.trans (b.mono I.bw.size), I.tx, I.iL, I.full, I.lo, I.wi⟩
theorem On.weak (I : On w W a on T L l lost B vg vw G Wt X i) (h : ∀ k, B' k → B k) (hB : ∀ k, k < w.heap.size ∨ vw.ownBlock = some k → B' k) : On w W a on T L l lost B' vg vw G Wt X i :=
  ⟨⟨I.pg.ss.weaken (fun k hk => hk.imp (h k) id), I.pg.rg, fun k hk hb => I.pg.ds k hk (h k hb)⟩, hB, I.rw, I.bw, I.tx, I.iL, I.full, I.lo, I.wi⟩
/-- One more block is to stay. -/
theorem On.add (I : On w W a on T L l lost B vg vw G Wt X i) (b : Below W.heap.size W w1) {bx : Nat} (h1 : W.heap.size ≤ bx) (h2 : bx < w1.heap.size) : On w w1 a on T L l lost (fun k => B k ∨ k = bx) vg vw G Wt X i := by
  refine ⟨⟨I.pg.ss.others (S := fun _ => False) (Far.of_ext b) (fun _ e => e.elim) ?_, own_keep I.pg.rg b, ?_⟩, fun k hk => .inl (I.hB k hk), own_keep I.rw b, I.bw.trans (b.mono I.bw.size), I.tx, I.iL, I.full, I.lo, I.wi⟩
  · rintro k ((hk | rfl) | hk)
    · exact .inl (.inl hk)
    · exact .inr ⟨h1, h2⟩
    · exact .inl (.inr hk)
  · rintro k hk (hb | rfl)
    · exact I.pg.ds k hk hb
    · have := (I.pg.rg.lt _ hk).2
      omega
theorem On.pump (I : On w W a on T L l lost B vg vw G Wt X i) (S1 : Ss (fun k => (B k ∨ vg.ownBlock = some k) ∨ v1.ownBlock = some k) w1 a tC false on' T' L' l' lost') (K1 : Kp (fun k => B k ∨ vg.ownBlock = some k) W w1) (b2 : Below w1.heap.size w1 w2)
    (o3 : w3.ownsRow w.heap.size 9 1 v3 G3.length (stL G3)) (g3 : w2.grownBy w3 vg.ownBlock) (hat : v3.ownBlock = vg.ownBlock ∨ v3.ownBlock = some w2.heap.size)
    (ht : G3 ++ Ses.tx l' = Wt ++ X') (hi : inv1 L') (hf : on' = true → l' = [] ∨ L'.length = 8) (hlo : lost' = (i' : Int) - ((Wt.length + X'.length : Nat) : Int)) (hw : Wt.length + X'.length ≤ i') : On w w3 a on' T' L' l' lost' B v3 vw G3 Wt X' i' ∧ Kp B W w3 := by
  obtain ⟨p3, k3⟩ := I.pg.pump S1 K1 b2 o3 g3 hat
  exact ⟨⟨p3, I.hB, own_fars I.rw k3 (fun k hk e => e (I.hB k (.inr hk))), I.bw.trans (k3.below I.bw.size (fun k hk => I.hB k (.inl hk))), ht, hi, hf, hlo, hw⟩, k3⟩
/-- A message was delivered: it was kept. -/
theorem On.kept (I : On w W a on T L l lost B vg vw G Wt [] i) (m : Mg) (hq : m.a2 = 1 ∨ m.a2 = 2) (S1 : Ss (fun k => (B k ∨ vg.ownBlock = some k) ∨ v1.ownBlock = some k) w1 a tC false on T' L' l' lost) (K1 : Kp (fun k => B k ∨ vg.ownBlock = some k) W w1) (e : fl on T L (l ++ [m]) = (T', L', l', P)) (b2 : Below w1.heap.size w1 w2)
    (o3 : w3.ownsRow w.heap.size 9 1 v3 (G ++ px P).length (stL (G ++ px P))) (g3 : w2.grownBy w3 vg.ownBlock) (hat : v3.ownBlock = vg.ownBlock ∨ v3.ownBlock = some w2.heap.size) : On w w3 a on T' L' l' lost B v3 vw (G ++ px P) Wt [m.a1] (i + 1) ∧ Kp B W w3 := by
  obtain ⟨f1, f2, f3, f4, f5⟩ := fl_all (fun x hx => (List.mem_append.1 hx).elim (I.pg.ss.ql x) (fun e => by rw [List.mem_singleton.1 e]; exact hq)) e
  refine I.pump S1 K1 b2 o3 g3 hat ?_ (f3 I.iL) (fun ho => f4 ho I.pg.ss.fs.le) ?_ ?_
  · have ht := I.tx
    rw [List.append_nil] at ht
    rw [List.append_assoc, f1, ← ht]
    simp [Ses.tx]
  · have := I.lo
    simp only [List.length_nil, List.length_singleton] at this ⊢
    omega
  · have := I.wi
    simp only [List.length_nil, List.length_singleton] at this ⊢
    omega
/-- It was lost. -/
theorem On.gone (I : On w W a on T L l lost B vg vw G Wt [] i) (S1 : Ss (fun k => (B k ∨ vg.ownBlock = some k) ∨ v1.ownBlock = some k) w1 a tC false on T' L' l' (lost + 1)) (K1 : Kp (fun k => B k ∨ vg.ownBlock = some k) W w1) (e : fl on T L l = (T', L', l', P)) (b2 : Below w1.heap.size w1 w2)
    (o3 : w3.ownsRow w.heap.size 9 1 v3 (G ++ px P).length (stL (G ++ px P))) (g3 : w2.grownBy w3 vg.ownBlock) (hat : v3.ownBlock = vg.ownBlock ∨ v3.ownBlock = some w2.heap.size) : On w w3 a on T' L' l' (lost + 1) B v3 vw (G ++ px P) Wt [] (i + 1) ∧ Kp B W w3 := by
  obtain ⟨f1, f2, f3, f4, f5⟩ := fl_all I.pg.ss.ql e
  refine I.pump S1 K1 b2 o3 g3 hat ?_ (f3 I.iL) (fun ho => f4 ho I.pg.ss.fs.le) ?_ ?_
  · rw [List.append_assoc, f1]; exact I.tx
  · have := I.lo
    omega
  · have := I.wi
    omega
/-- It comes. -/
theorem On.att (I : On w W a on T L l lost B vg vw G Wt [] i) (S1 : Ss (fun k => (B k ∨ vg.ownBlock = some k) ∨ v1.ownBlock = some k) w1 a tC false true T' L' l' lost) (K1 : Kp (fun k => B k ∨ vg.ownBlock = some k) W w1) (e : fl true T L l = (T', L', l', P)) (b2 : Below w1.heap.size w1 w2)
    (o3 : w3.ownsRow w.heap.size 9 1 v3 (G ++ px P).length (stL (G ++ px P))) (g3 : w2.grownBy w3 vg.ownBlock) (hat : v3.ownBlock = vg.ownBlock ∨ v3.ownBlock = some w2.heap.size) : On w w3 a true T' L' l' lost B v3 vw (G ++ px P) Wt [] i ∧ Kp B W w3 := by
  obtain ⟨f1, f2, f3, f4, f5⟩ := fl_all I.pg.ss.ql e
  exact I.pump S1 K1 b2 o3 g3 hat (by rw [List.append_assoc, f1]; exact I.tx) (f3 I.iL) (fun ho => f4 rfl I.pg.ss.fs.le) I.lo I.wi
/-- It goes. -/
theorem On.det (I : On w W a on T L l lost B vg vw G Wt X i) (S1 : Ss (fun k => B k ∨ vg.ownBlock = some k) w1 a tC false false T L l lost) (K1 : Kp (fun k => B k ∨ vg.ownBlock = some k) W w1) : On w w1 a false T L l lost B vg vw G Wt X i := by
  obtain ⟨p1, k1⟩ := I.pg.same S1 K1
  exact ⟨p1, I.hB, own_fars I.rw k1 (fun k hk e => e (I.hB k (.inr hk))), I.bw.trans (k1.below I.bw.size (fun k hk => I.hB k (.inl hk))), I.tx, I.iL, fun e => (by cases e), I.lo, I.wi⟩
/-- All is answered. -/
theorem On.ans (I : On w W a on T L l lost B vg vw G Wt [] i) (S1 : Ss (fun k => (B k ∨ vg.ownBlock = some k) ∨ v1.ownBlock = some k) w1 a tC false on T' L' l' lost) (K1 : Kp (fun k => B k ∨ vg.ownBlock = some k) W w1) (e : G3 ++ Ses.tx l' = Ses.tx l) (hi : inv1 L') (hf : on = true → l' = [] ∨ L'.length = 8)
    (o3 : w3.ownsRow w.heap.size 9 1 v3 (G ++ G3).length (stL (G ++ G3))) (g3 : w1.grownBy w3 vg.ownBlock) (hat : v3.ownBlock = vg.ownBlock ∨ v3.ownBlock = some w1.heap.size) : On w w3 a on T' L' l' lost B v3 vw (G ++ G3) Wt [] i ∧ Kp B W w3 :=
  I.pump S1 K1 (Below.refl _ _) o3 g3 hat (by rw [List.append_assoc, e]; exact I.tx) hi hf I.lo I.wi
/-- The text is wanted. -/
theorem On.want (I : On w W a on T L l lost B vg vw G Wt X i) (b : Below W.heap.size W W6) (o7 : w7.ownsRow w.heap.size 9 1 v3 (Wt ++ X).length (stL (Wt ++ X))) (g7 : W6.grownBy w7 vw.ownBlock) (hat : v3.ownBlock = vw.ownBlock ∨ v3.ownBlock = some W6.heap.size) : On w w7 a on T L l lost (fun k => k < w.heap.size ∨ v3.ownBlock = some k) vg v3 G (Wt ++ X) [] i := by
  have I6 := I.ext b
  have F7 : Far (fun k => vw.ownBlock = some k) W6 w7 := Far.of_grown g7 (fun k _ e => e)
  have hsz := I6.bw.size
  refine ⟨⟨I6.pg.ss.others F7 (fun k hk => .inl (I6.hB k (.inr hk))) ?_, own_fars I6.pg.rg F7 (fun k hk e => I6.pg.ds k hk (I6.hB k (.inr e))), ?_⟩, fun k hk => hk, o7, I6.bw.trans (F7.below hsz (fun k hk => (I6.rw.lt k hk).1)), by rw [List.append_nil]; exact I.tx, I.iL, I.full, ?_, ?_⟩
  · rintro k ((hk | hk) | hk)
    · exact .inl (.inl (I6.hB k (.inl hk)))
    · rcases hat with e | e
      · exact .inl (.inl (I6.hB k (.inr (e ▸ hk))))
      · right
        have := (o7.lt k hk).2
        rw [e] at hk
        simp only [Option.some.injEq] at hk
        exact ⟨Nat.le_of_eq hk, this⟩
    · exact .inl (.inr hk)
  · rintro k hk (hb | hb)
    · exact I6.pg.ds k hk (I6.hB k (.inl hb))
    · rcases hat with e | e
      · exact I6.pg.ds k hk (I6.hB k (.inr (e ▸ hb)))
      · rw [e] at hb
        simp only [Option.some.injEq] at hb
        have := (I6.pg.rg.lt k hk).2
        omega
  · have := I.lo
    simp only [List.length_append, List.length_nil] at this ⊢
    omega
  · have := I.wi
    simp only [List.length_append, List.length_nil] at this ⊢
    omega
end
def t1 (c : Nat) : ByteArray := strB [c]
theorem conv_one (w : World) (c : Nat) : (convert 23 9 (.slice (some ⟨w.heap.size, 0, none⟩) 1 1)).run Try.prog (w.alloc (.cells #[.int .u8 (c : Int)] 5)) = .ok (.string (t1 c)) (w.alloc (.cells #[.int .u8 (c : Int)] 5)) := by
  have hB : BytesAt (w.alloc (.cells #[.int .u8 (c : Int)] 5)) (.slice (some ⟨w.heap.size, 0, none⟩) 1 1) [c] := by
    refine ⟨_, 1, rfl, ⟨Nat.le_refl _, fun h => by cases h⟩, .inr ⟨w.heap.size, 0, rfl, by simp, fun i hi => ?_⟩⟩
    rw [World.cell?_alloc_at _ _ _ _ rfl]
    have hi' : i < 1 := hi
    obtain rfl : i = 0 := by omega
    simp
  exact hB.conv Try.underlying23 Try.underlying5 Try.underlying9
theorem answer_any {A : Nat → Prop} {w : World} {a : Ad} {cl : ByteArray} {cn on : Bool} {T : List Bool} {L : List Se} {l : List Mg} {lost : Int} (h : Ss A w a cl cn on T L l lost) (hA : ∀ k, A k → k < w.heap.size) (hi : inv1 L) (hf : on = true → l = [] ∨ L.length = 8) : Calls Try.prog 13 #[.pointer (some ⟨a.s, 0, none⟩)] w (AnsW A w a cl cn on L l lost) := by
  cases on with
  | true => exact answer_on h hA hi (hf rfl)
  | false => exact answer_off h hA hi
theorem msg_row {W : World} {t x : ByteArray} {q : Int} {bx : Nat} (R : W.heap[bx]? = some (.cells #[.string t, .string x, .int .i64 q, .bool false] 30 (0, 0))) : W.cell? ⟨bx, 0, none⟩ = some (.string t) ∧ W.cell? ⟨bx, 1, none⟩ = some (.string x) ∧ W.cell? ⟨bx, 2, none⟩ = some (.int .i64 q) ∧ W.cell? ⟨bx, 3, none⟩ = some (.bool false) ∧ W.frozen? ⟨bx, 2, none⟩ = false :=
  ⟨cell_of_row _ _ 0 _ 30 (0, 0) R, cell_of_row _ _ 1 _ 30 (0, 0) R, cell_of_row _ _ 2 _ 30 (0, 0) R, cell_of_row _ _ 3 _ 30 (0, 0) R, frozen_of_row _ _ 2 _ 30 R⟩
theorem row_app {w : World} {b : Nat} {v : Value} {G Y : List ByteArray} (o : w.ownsRow b 9 1 v (G.length + Y.length) (stL G ++ stL Y)) : w.ownsRow b 9 1 v (G ++ Y).length (stL (G ++ Y)) := by
  have h : stL (G ++ Y) = stL G ++ stL Y := by simp [stL]
  rw [h, List.length_append]
  exact o
/-- The loop's own form. -/
abbrev BW (w : World) (vw : Value) (k : Nat) : Prop := k < w.heap.size ∨ vw.ownBlock = some k
abbrev Om (w W : World) (a : Ad) (on : Bool) (T : List Bool) (L : List Se) (l : List Mg) (lost : Int) (vg vw : Value) (G Wt : List ByteArray) (i : Nat) : Prop := On w W a on T L l lost (BW w vw) vg vw G Wt [] i
theorem om_start {w w1 : World} {a : Ad} (s : Ss (fun k => k < w.heap.size) w1 a tC false false [] [] [] 0) (b : Below w.heap.size w w1) : Om w w1 a false [] [] [] 0 (.slice none 0 0) (.slice none 0 0) [] [] 0 :=
  ⟨⟨s.weaken (fun k hk => hk.elim (fun e => e.elim id (fun e => by cases e)) (fun e => by cases e)), World.ownsRow_nil _ _ _ _, fun k hk => by cases hk⟩, fun k hk => hk, World.ownsRow_nil _ _ _ _, b, rfl, (fun e he => by cases he), (fun e => by cases e), by simp, by simp⟩
section
variable {w W : World} {a : Ad} {on : Bool} {T : List Bool} {L : List Se} {l : List Mg} {lost : Int} {B : Nat → Prop} {vg vw : Value} {G Wt X : List ByteArray} {i : Nat}
theorem On.glen (I : On w W a on T L l lost B vg vw G Wt X i) : G.length + l.length = Wt.length + X.length := by
  have h := congrArg List.length I.tx
  simp only [Ses.tx, List.length_append, List.length_map] at h
  exact h
theorem On.same {w1 : World} (I : On w W a on T L l lost B vg vw G Wt X i) (S1 : Ss (fun k => B k ∨ vg.ownBlock = some k) w1 a tC false on T L l lost) (K1 : Kp (fun k => B k ∨ vg.ownBlock = some k) W w1) : On w w1 a on T L l lost B vg vw G Wt X i := by
  obtain ⟨p1, k1⟩ := I.pg.same S1 K1
  exact ⟨p1, I.hB, own_fars I.rw k1 (fun k hk e => e (I.hB k (.inr hk))), I.bw.trans (k1.below I.bw.size (fun k hk => I.hB k (.inl hk))), I.tx, I.iL, I.full, I.lo, I.wi⟩
theorem On.av (I : On w W a on T L l lost B vg vw G Wt X i) : ∀ k, (B k ∨ vg.ownBlock = some k) → k < W.heap.size := fun k hk => I.pg.ss.av (.inl hk)
theorem On.l0 (I : On w W a on T L l lost B vg vw G Wt X i) : 0 ≤ lost := by have := I.lo; have := I.wi; omega
theorem On.l1 (I : On w W a on T L l lost B vg vw G Wt X i) (h : i ≤ 100) : lost ≤ 1000000 := by have := I.lo; omega
end
end Go.Proofs.Ytceiipcdkonnlaa.Ses

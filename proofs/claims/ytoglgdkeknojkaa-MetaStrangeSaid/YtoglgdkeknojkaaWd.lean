/-
  LAYER 3: a slice of fields; the program's Put.
-/
import Derived.Test.YtoglgdkeknojkaaWc
import Derived.Test.YtoglgdkeknojkaaBlk
import Derived.Deep.MidRow
namespace Go.Proofs.Ytoglgdkeknojkaa
open Go.RowKit

/-- The slice value v reads as the fields l. -/
def FdsAt (w : World) (v : Value) (l : List Fd) : Prop :=
  ∃ a cap, v = .slice a l.length cap ∧ l.length ≤ 9223372036854775807 ∧ (l = [] ∨ ∃ b o, a = some ⟨b, o, none⟩ ∧ b < w.heap.size ∧ ∀ i f, l[i]? = some f → w.rangeAt b (o + i * 4) f.cells)
theorem rangeAt_keep {w w' : World} {b o B : Nat} {cs : List Value} (h : w.rangeAt b o cs) (hb : Below B w w') (hB : b < B) : w'.rangeAt b o cs := fun j v hj => by rw [hb.cell (by simpa using hB)]; exact h j v hj
theorem FdsAt.keep {w w' : World} {v : Value} {l : List Fd} (h : FdsAt w v l) {B : Nat} (hb : Below B w w') (hB : w.heap.size ≤ B) : FdsAt w' v l := by
  obtain ⟨a, cap, hv, hc, h⟩ := h
  refine ⟨a, cap, hv, hc, h.imp id ?_⟩
  rintro ⟨b, o, ha, hlt, hcell⟩
  exact ⟨b, o, ha, Nat.lt_of_lt_of_le hlt hb.size, fun i f hi => rangeAt_keep (hcell i f hi) hb (by omega)⟩
theorem rangeAt4 {w : World} {b o : Nat} {f : Fd} (h : w.rangeAt b o f.cells) : w.cell? ⟨b, o, none⟩ = some (.int .i64 f.num) ∧ w.cell? ⟨b, o + 1, none⟩ = some (.int .i64 f.kind) ∧ w.cell? ⟨b, o + 2, none⟩ = some (.int .u64 (f.val : Nat)) ∧ w.cell? ⟨b, o + 3, none⟩ = some (.string f.text) :=
  ⟨h 0 _ rfl, h 1 _ rfl, h 2 _ rfl, h 3 _ rfl⟩
/-- The first fault among fields. -/
def firstE : List Fd → Int
  | [] => 0
  | f :: r => if wrE f ≠ 0 then wrE f else firstE r
/-- Fields' bytes. -/
def joinL (l : List Fd) : List Nat := l.flatMap oneL
def putsE (l : List Fd) : Int := if firstE l ≠ 0 then firstE l else if 256 < l.length then 6 else if 4096 < (joinL l).length then 3 else 0
def putsL (l : List Fd) : List Nat := if putsE l = 0 then joinL l else []
/-- What both sides' Put make. -/
def Puts (E : Int) (L : List Nat) (w : World) (e : Ending) (w' : World) : Prop := ∃ v, e = .returned (.tuple #[v, .int .i64 E]) ∧ Src w' v L ∧ Below w.heap.size w w'
theorem src_nil (w : World) : Src w (.slice none 0 0) [] := ⟨none, 0, rfl, by simp, by omega, fun _ => rfl, .inl rfl⟩
theorem firstE_zero {l : List Fd} : firstE l = 0 ↔ ∀ f ∈ l, wrE f = 0 := by
  induction l with
  | nil => simp [firstE]
  | cons f r ih =>
    rw [firstE]
    split
    · rename_i h
      simp [h]
    · rename_i h
      simp only [ne_eq, Decidable.not_not] at h
      simp [ih, h]
theorem firstE_at {l : List Fd} {i : Nat} {f : Fd} (h : ∀ g ∈ l.take i, wrE g = 0) (hi : l[i]? = some f) (hf : wrE f ≠ 0) : firstE l = wrE f := by
  induction l generalizing i with
  | nil => simp at hi
  | cons a r ih =>
    cases i with
    | zero =>
      simp at hi; subst hi
      rw [firstE, if_pos hf]
    | succ k =>
      have h0 : wrE a = 0 := h a (by simp)
      rw [firstE, if_neg (by simp [h0])]
      exact ih (i := k) (fun g hg => h g (by rw [List.take_succ_cons]; exact List.mem_cons_of_mem _ hg)) (by simpa using hi)
set_option maxHeartbeats 1000000 in
set_option maxRecDepth 100000 in
theorem puts_1 (v : Value) (l : List Fd) (w : World) (hs : FdsAt w v l) (hl : firstE l ≠ 0) : Calls Try.prog 16 #[v] w (Puts (firstE l) [] w) := by
  obtain ⟨a, cap, rfl, hlen, hc⟩ := hs
  replace hl := Lib.hid hl
  replace hc := Lib.hid hc
  have hlen' : (l.length : Int) ≤ 9223372036854775807 := by omega
  go_enter Try.func16, Try.ntmps16
  go_wp2
  go_loopw [12] (fun i wr => ∃ k : Nat, i = .int .i64 k ∧ k ≤ l.length ∧ (∀ g ∈ l.take k, wrE g = 0) ∧ Below w.heap.size w wr) (fun i _ => l.length - (intOf i).toNat)
  case atStart => exact ⟨0, rfl, by omega, by simp, Below.refl _ _⟩
  case round =>
    obtain ⟨k, rfl, hk, hall, hb⟩ := hrel
    replace hall := Lib.hid hall
    replace hb := Lib.hid hb
    by_cases hend : k = l.length
    · exfalso
      subst hend
      have := hall.out
      rw [List.take_length] at this
      exact hl.out (firstE_zero.2 this)
    obtain ⟨f, hf⟩ : ∃ f, l[k]? = some f := ⟨_, List.getElem?_eq_getElem (by omega)⟩
    obtain ⟨b, o, rfl, hbl, hcell⟩ : ∃ b o, a = some ⟨b, o, none⟩ ∧ b < w.heap.size ∧ w.rangeAt b (o + k * 4) f.cells := by
      rcases hc.out with h | ⟨b, o, ha, hb, hc⟩
      · subst h; simp at hf
      · exact ⟨b, o, ha, hb, hc k f hf⟩
    have hr := rangeAt_keep hcell hb.out hbl
    clear hcell
    obtain ⟨c0, c1, c2, c3⟩ := rangeAt4 hr
    replace hf := Lib.hid hf
    have klt : (k : Int) < (l.length : Int) := by omega
    go_wp2_with fail
    refine (wr_any 35 (.inl rfl) f _).mono ?_
    rintro e w1 ⟨rfl, h1⟩
    have h2 := Lib.hid (hb.out.trans ((ext_trans (ext_alloc _ _) h1).mono hb.out.size))
    clear h1
    by_cases hw : wrE f = 0
    · have hd : (wrE f != 0) = false := by simp [hw]
      clear c0 c1 c2 c3 hr
      go_wp2_with fail
      go_roundw
      case rel => exact ⟨k + 1, by simp, by omega, by
        rw [List.take_succ_eq_append_getElem (by omega)]
        intro g hg
        rcases List.mem_append.1 hg with hg | hg
        · exact hall.out g hg
        · obtain ⟨hlt, he⟩ := List.getElem?_eq_some_iff.1 hf.out
          rw [List.mem_singleton.1 hg, he]
          exact hw, h2.out⟩
      case measure => simp [intOf]; omega
    · have hd : (wrE f != 0) = true := by simpa using hw
      have hE := firstE_at hall.out hf.out hw
      replace hE := Lib.hid hE
      clear c0 c1 c2 c3 hr
      go_wp2_with fail
      go_ret2
      exact ⟨_, by rw [hE.out]; rfl, src_nil _, h2.out⟩
theorem txt_long (f : Fd) (hf : f.ok) : f.text.size ≤ 140737488351232 := hf.2.2.2
theorem joinL_snoc (l : List Fd) (f : Fd) : joinL (l ++ [f]) = joinL l ++ oneL f := by simp [joinL]
theorem joinL_take_le (l : List Fd) (k : Nat) : (joinL (l.take k)).length ≤ (joinL l).length := by
  conv => rhs; rw [← List.take_append_drop k l]
  unfold joinL
  rw [List.flatMap_append, List.length_append]
  omega
theorem wr_puts0 {l : List Fd} {f : Fd} {k : Nat} (h0 : firstE l = 0) (hf : l[k]? = some f) : wrE f = 0 := firstE_zero.1 h0 f (List.mem_of_getElem? hf)
def P2 (w : World) (l : List Fd) (o i : Value) (wr : World) : Prop :=
  ∃ k : Nat, i = .int .i64 k ∧ k ≤ l.length ∧ wr.ownsRow w.heap.size 5 1 o (joinL (l.take k)).length (bl (joinL (l.take k))) ∧ (joinL (l.take k)).length ≤ 4096 ∧ Below w.heap.size w wr
theorem own_type {w : World} {B e size n g : Nat} {t : TypeId} {v : Value} {xs : List Value} {cs : Array Value} (h : w.ownsRow B e size v n xs) (hk : Blk w g t cs) (ht : t ≠ e) : some g ≠ v.ownBlock := by
  intro he
  rcases h.2 with ⟨rfl, _⟩ | ⟨g', cap, cur, rfl, hb, hg, _⟩
  · simp [Value.ownBlock] at he
  · simp [Value.ownBlock] at he
    subst he
    unfold Blk at hk
    rw [hg] at hk
    simp only [Option.some.injEq, Obj.cells.injEq] at hk
    exact ht hk.2.1.symm
theorem blk4 {w : World} {g : Nat} {f : Fd} (h : Blk w g 41 f.cells.toArray) : w.cell? ⟨g, 0, none⟩ = some (.int .i64 f.num) ∧ w.cell? ⟨g, 1, none⟩ = some (.int .i64 f.kind) ∧ w.cell? ⟨g, 2, none⟩ = some (.int .u64 (f.val : Nat)) ∧ w.cell? ⟨g, 3, none⟩ = some (.string f.text) :=
  ⟨h.cell 0, h.cell 1, h.cell 2, h.cell 3⟩
theorem or_tag (f : Fd) (h1 : 1 ≤ f.num) (h2 : f.num ≤ 536870911) (hk : 0 ≤ f.kind ∧ f.kind ≤ 5) : bits .or .u64 (f.num * 8) f.kind = ((tag f : Nat) : Int) := by
  obtain ⟨n, k, v, t⟩ := f
  simp only at h1 h2 hk
  obtain ⟨n, rfl⟩ := Int.eq_ofNat_of_zero_le (show 0 ≤ n by omega)
  obtain ⟨k, rfl⟩ := Int.eq_ofNat_of_zero_le (show 0 ≤ k by omega)
  unfold tag
  simp only [Int.toNat_natCast]
  have hk5 : k ≤ 5 := by omega
  have hn' : n ≤ 536870911 := by omega
  rw [show ((n : Int) * 8) = ((n * 8 : Nat) : Int) by omega]
  rw [u64_or_nat _ _ (by omega) (by omega), nat_join 3 (n * 8) k (by omega) (by omega)]
theorem tag_le (f : Fd) (h2 : f.num ≤ 536870911) (hk : f.kind ≤ 5) : tag f ≤ 4294967293 := by unfold tag; omega
theorem mid_len (f : Fd) (hf : f.ok) : (midL f).length ≤ 10 := by
  obtain ⟨-, -, hv, ht⟩ := hf
  unfold midL
  split
  · simp [r8]
  split
  · simp [r4]
  split
  · exact putL_small _ (by omega)
  · exact putL_small _ hv
theorem kind_le {f : Fd} (h : wrE f = 0) : 0 ≤ f.kind ∧ f.kind ≤ 5 := by
  obtain ⟨-, -, hk⟩ := wrE_zero h
  omega
set_option maxHeartbeats 2000000 in
set_option maxRecDepth 100000 in
theorem puts_2 (v : Value) (l : List Fd) (w : World) (hs : FdsAt w v l) (hok : ∀ f ∈ l, f.ok) (h0 : firstE l = 0) : Calls Try.prog 16 #[v] w (Puts (putsE l) (putsL l) w) := by
  obtain ⟨i0, hi, hz0, hz1, hz2⟩ := info_parts Try.info5
  replace hi := Lib.hid hi
  replace hz0 := Lib.hid hz0
  replace hz1 := Lib.hid hz1
  replace hz2 := Lib.hid hz2
  obtain ⟨a, cap, rfl, hlen, hc⟩ := hs
  replace h0 := Lib.hid h0
  replace hc := Lib.hid hc
  replace hok := Lib.hid hok
  have hlen' : (l.length : Int) ≤ 9223372036854775807 := by omega
  go_enter Try.func16, Try.ntmps16
  go_wp2
  go_loopw [12] (fun i wr => ∃ k : Nat, i = .int .i64 k ∧ k ≤ l.length ∧ Below w.heap.size w wr) (fun i _ => l.length - (intOf i).toNat)
  case atStart => exact ⟨0, rfl, by omega, Below.refl _ _⟩
  case round =>
    obtain ⟨k, rfl, hk, hb⟩ := hrel
    replace hb := Lib.hid hb
    by_cases hend : k = l.length
    · subst hend
      by_cases h256 : 256 < l.length
      · have h256' : 256 < (l.length : Int) := by omega
        go_wp2
        go_ret2
        have hE : putsE l = 6 := by unfold putsE; rw [h0.out, if_neg (by simp), if_pos h256]
        exact ⟨_, by rw [hE]; rfl, by unfold putsL; rw [hE, if_neg (by decide)]; exact src_nil _, hb.out⟩
      have h256' : ¬ 256 < (l.length : Int) := by omega
      clear hk
      go_wp2
      have b0 := hb.out.size
      rename World => w0
      go_loopw [27, 7] (fun i o wr => P2 w l o i wr) (fun i _ _ => l.length - (intOf i).toNat)
      case atStart => exact ⟨0, rfl, by omega, ⟨by simp [joinL, bl], .inl ⟨rfl, by simp [joinL]⟩⟩, by simp [joinL], hb.out⟩
      case round =>
        obtain ⟨k, rfl, hk, hown, hln, hb1⟩ := hrel
        clear hb
        replace hb1 := Lib.hid hb1
        by_cases hend : k = l.length
        · subst hend
          rw [List.take_length] at hown hln
          go_wp2
          go_ret2
          have hE : putsE l = 0 := by unfold putsE; rw [h0.out, if_neg (by simp), if_neg h256, if_neg (by omega)]
          exact ⟨_, by rw [hE]; rfl, by unfold putsL; rw [hE, if_pos rfl]; exact Src.of_own hown, hb1.out⟩
        obtain ⟨f, hf⟩ : ∃ f, l[k]? = some f := ⟨_, List.getElem?_eq_getElem (by omega)⟩
        obtain ⟨b, o', rfl, hbl, hcell⟩ : ∃ b o, a = some ⟨b, o, none⟩ ∧ b < w.heap.size ∧ w.rangeAt b (o + k * 4) f.cells := by
          rcases hc.out with h | ⟨b, o, ha, hb, hc⟩
          · subst h; simp at hf
          · exact ⟨b, o, ha, hb, hc k f hf⟩
        have hr := rangeAt_keep hcell hb1.out hbl
        clear hcell
        obtain ⟨c0, c1, c2, c3⟩ := rangeAt4 hr
        have hw := wr_puts0 h0.out hf
        obtain ⟨n1, n2, -⟩ := wrE_zero hw
        obtain ⟨kl, kg⟩ := kind_le hw
        have fok := hok.out f (List.mem_of_getElem? hf)
        have hj : joinL (l.take (k + 1)) = joinL (l.take k) ++ oneL f := by
          rw [List.take_succ_eq_append_getElem (by omega), joinL_snoc]
          rw [show l[k]'(by omega) = f from (List.getElem?_eq_some_iff.1 hf).2]
        have hjl := joinL_take_le l (k + 1)
        replace hf := Lib.hid hf
        have klt : (k : Int) < (l.length : Int) := by omega
        have hor := or_tag f n1 n2 ⟨kl, kg⟩
        have ht1 := putL_small (tag f) (by have := tag_le f n2 kg; omega)
        have hm1 := mid_len f fok
        have hsz : (f.text.size : Int) ≤ 140737488351232 := by have := fok.2.2.2; omega
        have T := Lib.hid fun w => bs_put (tag f) w (by have := tag_le f n2 kg; omega)
        have M := Lib.hid fun w => ahead_any f w fok hw
        have k0 : Blk (wr.alloc (.cells f.cells.toArray 41)) wr.heap.size 41 f.cells.toArray := Blk.new wr 41 _
        have own0 : (wr.alloc (.cells f.cells.toArray 41)).ownsRow w.heap.size 5 1 u7 (joinL (List.take k l)).length (bl (joinL (List.take k l))) := own_below hown (ext_alloc _ _)
        have zr : w.heap.size ≤ wr.heap.size := hb1.out.size
        have hne : some wr.heap.size ≠ u7.ownBlock := by intro he; have := (hown.lt _ he.symm).2; omega
        have B0 : Below w.heap.size w (wr.alloc (.cells f.cells.toArray 41)) := hb1.out.trans ((ext_alloc _ _).mono hb1.out.size)
        have y0 : w.heap.size + 1 ≤ (wr.alloc (.cells f.cells.toArray 41)).heap.size := by have := hb1.out.size; simp; omega
        obtain ⟨L, gL⟩ : ∃ L, L = joinL (l.take k) := ⟨_, rfl⟩
        obtain ⟨lt, glt⟩ : ∃ x, x = putL 9 (tag f) := ⟨_, rfl⟩
        obtain ⟨lm, glm⟩ : ∃ x, x = midL f := ⟨_, rfl⟩
        rw [← gL] at hown hln own0 hj
        rw [← glt] at ht1
        rw [← glm] at hm1
        have go : oneL f = lt ++ lm ++ txtL f.text := by rw [glt, glm]; rfl
        replace gL := Lib.hid gL
        replace glt := Lib.hid glt
        replace glm := Lib.hid glm
        replace go := Lib.hid go
        replace hj := Lib.hid hj
        replace hjl := Lib.hid hjl
        replace k0 := Lib.hid k0
        replace own0 := Lib.hid own0
        replace B0 := Lib.hid B0
        replace y0 := Lib.hid y0
        replace fok := Lib.hid fok
        replace hw := Lib.hid hw
        clear hown hr
        go_wp2_with fail
        refine (T.out _).mono ?_
        rintro e w1 ⟨a1, m1, d1, rfl, h1, b1⟩
        rw [← glt.out] at h1
        have K1 := Lib.hid (k0.out.ext b1)
        have own1 := own_below own0.out b1
        have B1 := Lib.hid (ext_trans B0.out b1)
        have y1 : w.heap.size + 1 ≤ w1.heap.size := by have := K1.out.lt; omega
        clear b1 c0 c1 c2 c3 hor T own0
        go_wp2_with (at_builtin; (refine wpList_append_bytes _ rfl (.tmp 31) (.tmp 40) 25 rfl w.heap.size 5 i0 Try.underlying25 hi.out hz0.out hz1.out hz2.out u7 L lt rfl own1 h1 (by omega) (by omega) ?_); intro v2 w2 o2 g2 n2'; clear n2'; have K2 := Lib.hid (K1.out.grown g2 hne); have B2 := Lib.hid (B1.out.trans (grown_ext own1 g2 (by omega))); have y2 : w.heap.size + 1 ≤ w2.heap.size := (by have := (K2.out.lt); omega); have hne2 : some wr.heap.size ≠ v2.ownBlock := own_type o2 K2.out (by decide); obtain ⟨q0, q1, q2, q3⟩ := blk4 K2.out; clear own1 h1 g2; obtain ⟨L2, gL2⟩ : ∃ x, x = L ++ lt := ⟨_, rfl⟩; rw [← gL2] at o2; have hl2 : L2.length = L.length + lt.length := (by rw [gL2, List.length_append]); replace gL2 := Lib.hid gL2)
        refine (M.out _).mono ?_
        rintro e w3 ⟨a3, m3, d3, rfl, h3, b3⟩
        rw [← glm.out] at h3
        have K3 := Lib.hid (K2.out.ext b3)
        have own3 := own_below o2 b3
        have B3 := Lib.hid (ext_trans B2.out b3)
        have y3 : w.heap.size + 1 ≤ w3.heap.size := by have := b3.size; omega
        clear b3 q0 q1 q2 q3 M o2 hne
        obtain ⟨L3, gL3⟩ : ∃ x, x = L2 ++ lm := ⟨_, rfl⟩
        have hj3 : (joinL (l.take (k + 1))).length = L3.length + f.text.size := by rw [hj.out, go.out, gL3, gL2.out]; simp only [List.length_append, txtL_length]; omega
        have hl3 : L3.length = L.length + lt.length + lm.length := by rw [gL3, List.length_append, hl2]
        have h23 : L2.length + lm.length ≤ 140737488355328 := by omega
        have hb3 : (L3.length : Int) ≤ 4116 := by omega
        replace gL3 := Lib.hid gL3
        replace hl3 := Lib.hid hl3
        clear hl2 hln ht1 hm1
        replace hj3 := Lib.hid hj3
        by_cases hbig : 4096 < L3.length + f.text.size
        · have hE : putsE l = 3 := by
            have h5 := hj3.out
            have h6 := hjl.out
            unfold putsE
            rw [h0.out, if_neg (by simp), if_neg h256, if_pos (by omega)]
          replace hE := Lib.hid hE
          have hbig' : (4096 : Int) < (L3.length : Int) + (f.text.size : Int) := by omega
          go_wp2_with (at_builtin; (refine wpList_append_bytes _ rfl (.tmp 42) (.tmp 44) 25 rfl w.heap.size 5 i0 Try.underlying25 hi.out hz0.out hz1.out hz2.out v2 L2 lm rfl own3 h3 h23 (by omega) ?_); intro v4 w4 o4 g4 n4'; clear n4'; have K4 := Lib.hid (K3.out.grown g4 hne2); have B4 := Lib.hid (B3.out.trans (grown_ext own3 g4 (by omega))); obtain ⟨q0, q1, q2, q3⟩ := blk4 K4.out; clear own3 h3 g4; rw [← gL3.out] at o4; obtain ⟨a4, c4, rfl⟩ := own_slice o4)
          go_ret2
          exact ⟨_, by rw [hE.out]; rfl, by unfold putsL; rw [hE.out, if_neg (by decide)]; exact src_nil _, B4.out⟩
        · have hbig' : (L3.length : Int) + (f.text.size : Int) ≤ 4096 := by omega
          have hr3 : L3.length + f.text.size ≤ 140737488355328 := by omega
          go_wp2_with (first | (at_builtin; (refine wpList_append_bytes _ rfl (.tmp 42) (.tmp 44) 25 rfl w.heap.size 5 i0 Try.underlying25 hi.out hz0.out hz1.out hz2.out v2 L2 lm rfl own3 h3 h23 (by omega) ?_); intro v4 w4 o4 g4 n4'; clear n4'; have K4 := Lib.hid (K3.out.grown g4 hne2); have B4 := Lib.hid (B3.out.trans (grown_ext own3 g4 (by omega))); obtain ⟨q0, q1, q2, q3⟩ := blk4 K4.out; clear own3 h3 g4; rw [← gL3.out] at o4; obtain ⟨a4, c4, rfl⟩ := own_slice o4; have y4 : w.heap.size + 1 ≤ w4.heap.size := (by have := (K4.out.lt); omega)) | (at_builtin; go_must (refine Lib.wpList_append_own_string _ rfl (.tmp 53) (.tmp 55) 25 9 rfl w.heap.size 5 i0 Try.underlying25 Try.underlying9 hi.out hz0.out hz1.out hz2.out (.slice a4 L3.length c4) L3.length (bl L3) rfl o4 f.text rfl (by unfold maxLen; omega) hr3 (by omega) ?_); intro v5 w5 o5 g5 n5))
          go_roundw
          case rel =>
            have hL : bl L3 ++ Lib.strCells f.text = bl (joinL (l.take (k + 1))) := by
              rw [hj.out, go.out, gL3.out, gL2.out, ← bl_txt, ← bl_append]
              simp only [List.append_assoc]
            rw [hL, ← hj3.out] at o5
            exact ⟨k + 1, by simp, by omega, o5, by have := hj3.out; omega, B4.out.trans (grown_ext o4 g5 (by omega))⟩
          case measure => simp [intOf]; omega
    obtain ⟨f, hf⟩ : ∃ f, l[k]? = some f := ⟨_, List.getElem?_eq_getElem (by omega)⟩
    obtain ⟨b, o, rfl, hbl, hcell⟩ : ∃ b o, a = some ⟨b, o, none⟩ ∧ b < w.heap.size ∧ w.rangeAt b (o + k * 4) f.cells := by
      rcases hc.out with h | ⟨b, o, ha, hb, hc⟩
      · subst h; simp at hf
      · exact ⟨b, o, ha, hb, hc k f hf⟩
    have hr := rangeAt_keep hcell hb.out hbl
    clear hcell
    obtain ⟨c0, c1, c2, c3⟩ := rangeAt4 hr
    have hw := wr_puts0 h0.out hf
    replace hf := Lib.hid hf
    have klt : (k : Int) < (l.length : Int) := by omega
    go_wp2_with fail
    refine (wr_any 35 (.inl rfl) f _).mono ?_
    rw [hw]
    rintro e w1 ⟨rfl, h1⟩
    have h2 := Lib.hid (hb.out.trans ((ext_trans (ext_alloc _ _) h1).mono hb.out.size))
    clear h1
    clear c0 c1 c2 c3 hr
    go_wp2_with fail
    go_roundw
    case rel => exact ⟨k + 1, by simp, by omega, h2.out⟩
    case measure => simp [intOf]; omega
end Go.Proofs.Ytoglgdkeknojkaa

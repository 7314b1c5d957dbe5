/-
  LAYER 6: the program's Put.
-/
import Derived.Test.YtoglgdkeknojkaaMc
import Derived.Test.YtoglgdkeknojkaaWq
import Derived.Deep.DeepMust
namespace Go.Proofs.Ytoglgdkeknojkaa
open Go.RowKit

def kindP (i : Nat) : Int := if i = 0 ∨ i = 2 ∨ i = 3 then 0 else 2
/-- A part's field, if it is not zero. -/
def fieldP (m : Me) (i : Nat) : List Fd := if getN i m = 0 ∧ (getS i m).size = 0 then [] else [⟨(i : Int) + 1, kindP i, getN i m, getS i m⟩]
def fieldsK (m : Me) (k : Nat) : List Fd := (List.range k).flatMap (fieldP m)
theorem fieldsK_succ (m : Me) (k : Nat) : fieldsK m (k + 1) = fieldsK m k ++ fieldP m k := by simp [fieldsK, List.range_succ]
theorem fieldsK_le (m : Me) : ∀ k, (fieldsK m k).length ≤ k
  | 0 => by simp [fieldsK]
  | k + 1 => by
    rw [fieldsK_succ, List.length_append]
    have := fieldsK_le m k
    have : (fieldP m k).length ≤ 1 := by unfold fieldP; split <;> simp
    omega
theorem mbox {w w1 : World} {m : Me} (hb : Below (w.alloc (.cells m.cells 24)).heap.size (w.alloc (.cells m.cells 24)) w1) : Blk w1 w.heap.size 24 m.cells := Blk.ext (Blk.new w 24 m.cells) hb
theorem Blk.m8 {w : World} {g : Nat} {m : Me} (h : Blk w g 24 m.cells) : w.cell? ⟨g, 0, none⟩ = some (.bool m.multi) ∧ w.cell? ⟨g, 1, none⟩ = some (.string m.type) ∧ w.cell? ⟨g, 2, none⟩ = some (.int .u64 (m.size : Nat)) ∧ w.cell? ⟨g, 3, none⟩ = some (.int .u64 (m.seq : Nat)) ∧
    w.cell? ⟨g, 4, none⟩ = some (.string m.file) ∧ w.cell? ⟨g, 5, none⟩ = some (.string m.kind) ∧ w.cell? ⟨g, 6, none⟩ = some (.string m.md5) ∧ w.cell? ⟨g, 7, none⟩ = some (.string m.desc) :=
  ⟨Blk.cell h 0, Blk.cell h 1, Blk.cell h 2, Blk.cell h 3, Blk.cell h 4, Blk.cell h 5, Blk.cell h 6, Blk.cell h 7⟩
theorem mgrown {B : Nat} {w w' : World} {v : Value} {n size : Nat} {xs : List Value} {e : TypeId} (hown : w.ownsRow B e size v n xs) (hg : w.grownBy w' v.ownBlock) (hB : B ≤ w.heap.size) : Below B w w' :=
  (Below.refl _ _).grown hg hB (fun k hk => (hown.lt k hk).1)
theorem mown_below {w w' : World} {B : Nat} {v : Value} {n size : Nat} {xs : List Value} {e : TypeId} (h : w.ownsRow B e size v n xs) (hb : Below w.heap.size w w') : w'.ownsRow B e size v n xs := by
  refine ⟨h.1, h.2.imp id ?_⟩
  rintro ⟨g, cap, cur, hv, hg, hcur, rest⟩
  exact ⟨g, cap, cur, hv, hg, by rw [hb.block g (Array.getElem?_eq_some_iff.1 hcur).1]; exact hcur, rest⟩
set_option maxHeartbeats 8000000 in
set_option maxRecDepth 100000 in
theorem mput7_any (m : Me) (w : World) (hm : m.ok) (P : ∀ v W, Below w.heap.size w W → FdsAt W v (fieldsK m 8) → Calls Try.prog 16 #[v] W (Puts (putsE (fieldsK m 8)) (putsL (fieldsK m 8)) W)) :
    Calls Try.prog 7 #[m.val] w (Puts (putsE (fieldsK m 8)) (putsL (fieldsK m 8)) w) := by
  obtain ⟨i0, hi, hz0, hz1, hz2⟩ := info_parts Try.info41
  replace hi := Lib.hid hi
  replace hz0 := Lib.hid hz0
  replace hz1 := Lib.hid hz1
  replace hz2 := Lib.hid hz2
  have hB0 := Lib.hid (ext_alloc w (.cells m.cells 24))
  have hM0 := Lib.hid (Blk.new w 24 m.cells)
  have hmv := hm
  obtain ⟨-, hsz, hsq, -⟩ := hmv
  replace hm := Lib.hid hm
  replace P := Lib.hid P
  generalize putsE (fieldsK m 8) = PE at *
  generalize putsL (fieldsK m 8) = PL at *
  unfold Me.val
  have em : m.cells = #[.bool m.multi, .string m.type, .int .u64 (m.size : Nat), .int .u64 (m.seq : Nat), .string m.file, .string m.kind, .string m.md5, .string m.desc] := rfl
  rw [em]
  replace em := Lib.hid em
  go_enter Try.func7, Try.ntmps7
  go_wp2_with fail
  refine (parts_any _).mono ?_
  rintro e w1 ⟨b, g1, g2, g3, g4, g5, g6, g7, rfl, hP, hb⟩
  have hM1 := Lib.hid (Blk.ext hM0.out hb)
  have hB1 := Lib.hid (ext_trans hB0.out hb)
  replace hP := Lib.hid hP
  clear hb
  go_wp2_with fail
  go_loopw [4, 11] (fun l i wr => ∃ k : Nat, i = .int .i64 k ∧ k ≤ 8 ∧ wr.ownsRow w1.heap.size 41 4 l (fieldsK m k).length (fcs (fieldsK m k)) ∧ Below w1.heap.size w1 wr) (fun _ i _ => 8 - (intOf i).toNat)
  case atStart => exact ⟨0, rfl, by omega, World.ownsRow_nil _ _ _ _, Below.refl _ _⟩
  case round =>
    obtain ⟨k, rfl, hk, hown, hb1⟩ := hrel
    replace hb1 := Lib.hid hb1
    have zr : w1.heap.size ≤ wr.heap.size := hb1.out.size
    obtain ⟨c0, c1, c2, c3, c4, c5, c6, c7⟩ := Blk.m8 (Blk.ext hM1.out hb1.out)
    obtain ⟨p0, p1, p2, p3, p4, p5, p6, p7⟩ := hP.out.keep hb1.out
    have ltM : w.heap.size < wr.heap.size := Blk.lt (Blk.ext hM1.out hb1.out)
    by_cases hend : k = 8
    · subst hend
      have hle := fieldsK_le m 8
      have hF := FdsAt.of_own hown (by omega)
      have Q := Lib.hid (P.out _ wr (hB1.out.trans (hb1.out.mono hB1.out.size)) hF)
      obtain ⟨a, c, rfl⟩ := own_slice hown
      clear hown hF p0 p1 p2 p3 p4 p5 p6 p7 c0 c1 c2 c3 c4 c5 c6 c7 hle
      go_wp2_with fail
      refine Q.out.mono ?_
      rintro e w5 ⟨v5, rfl, s5, b5⟩
      go_wp2_with fail
      go_ret2
      exact ⟨_, rfl, s5, hB1.out.trans (ext_trans hb1.out b5 |>.mono hB1.out.size)⟩
    have hk8 : k = 0 ∨ k = 1 ∨ k = 2 ∨ k = 3 ∨ k = 4 ∨ k = 5 ∨ k = 6 ∨ k = 7 := by omega
    have hfl := fieldsK_le m k
    have hstep := fieldsK_succ m k
    clear hk hend
    rcases hk8 with rfl | rfl | rfl | rfl | rfl | rfl | rfl | rfl
    · have q0 := Blk.cell p0 0
      have q1 := Blk.cell p0 1
      have q2 := Blk.cell p0 2
      have q3 := Blk.cell p0 3
      have q4 := Blk.cell p0 4
      simp only [List.getElem?_toArray, List.getElem?_cons_succ, List.getElem?_cons_zero] at q0 q1 q2 q3 q4
      have FP : fieldP m 0 = if getN 0 m = 0 ∧ (getS 0 m).size = 0 then [] else [⟨1, 0, getN 0 m, getS 0 m⟩] := rfl
      have G := Lib.hid (fun w => multi_any m w)
      unfold Me.val at G
      rw [em.out] at G
      generalize getN 0 m = gn at *
      generalize getS 0 m = gt at *
      clear p0 p1 p2 p3 p4 p5 p6 p7
      obtain ⟨pc, gpc⟩ : ∃ pc : Array Value, pc = #[.int .i64 1, .int .i64 0, .int .u64 1, .func (.func 24) #[] #[], .func (.func 25) #[] #[]] := ⟨_, rfl⟩
      have hb0 := ext_alloc wr (.cells pc 49)
      have own1 := mown_below hown hb0
      have bx0 := Blk.new wr 49 pc
      rw [gpc] at hb0 own1 bx0
      replace own1 := Lib.hid own1
      replace hb0 := Lib.hid hb0
      replace bx0 := Lib.hid bx0
      replace gpc := Lib.hid gpc
      clear hown
      go_wp2_with fail
      refine (G.out _).mono ?_
      rintro e w2 ⟨rfl, b2⟩
      have bx := Blk.ext bx0.out b2
      have r0 := Blk.cell bx 0
      have r1 := Blk.cell bx 1
      simp only [List.getElem?_toArray, List.getElem?_cons_succ, List.getElem?_cons_zero] at r0 r1
      have B2 := Lib.hid (ext_trans hb1.out (ext_trans hb0.out b2))
      have own2 := Lib.hid (mown_below own1.out b2)
      have z2 : w1.heap.size ≤ w2.heap.size := B2.out.size
      clear bx b2 q0 q1 q2 q3 q4
      by_cases hz : gn = 0 ∧ gt.size = 0
      · rw [if_pos hz] at FP
        rw [FP, List.append_nil] at hstep
        obtain ⟨rfl, hz⟩ := hz
        obtain rfl := size0 hz
        replace hstep := Lib.hid hstep
        replace FP := Lib.hid FP
        replace hz := Lib.hid hz
        go_wp2_with fail
        go_roundw
        case rel => exact ⟨1, by simp, by omega, by rw [hstep.out]; exact own2.out, B2.out⟩
        case measure => simp [intOf]
      · rw [if_neg hz] at FP
        rw [FP] at hstep
        have hst2 : fcs (fieldsK m 1) = fcs (fieldsK m 0) ++ [.int .i64 1, .int .i64 0, .int .u64 (gn : Nat), .string gt] := by rw [show (1 : Nat) = 0 + 1 from rfl, hstep, fcs_snoc]; rfl
        have hst3 : (fieldsK m 1).length = (fieldsK m 0).length + 1 := by rw [show (1 : Nat) = 0 + 1 from rfl, hstep]; simp
        have ht : (gn = 0 ∧ gt.size ≠ 0) ∨ gn ≠ 0 := by
          by_cases h : gn = 0
          · exact .inl ⟨h, fun h2 => hz ⟨h, h2⟩⟩
          · exact .inr h
        generalize fieldsK m 0 = M at *
        replace hstep := Lib.hid hstep
        replace hst2 := Lib.hid hst2
        replace hst3 := Lib.hid hst3
        replace FP := Lib.hid FP
        clear hz
        rcases ht with ⟨rfl, ht⟩ | ht
        · have ht' := size1 ht
          replace ht := Lib.hid ht
          rw [Int.natCast_zero] at hst2
          go_wp2_with (at_builtin; (refine wpList_append_own_at _ rfl (.tmp 28) (.tmp 36) 39 rfl w1.heap.size 41 i0 _ 4 40 Try.underlying39 hi.out hz0.out hz1.out hz2.out rfl (by decide) _ M.length (fcs M) rfl (own2.out.alloc _) ⟨w2.heap.size, 0, none⟩ 1 1 [.int .i64 1, .int .i64 0, .int .u64 0, .string gt] rfl rfl (cell_four_new _ _ _ _ _ _ rfl) (by intro u hu; simp at hu; rcases hu with rfl | rfl | rfl | rfl <;> rfl) (by unfold maxLen; omega) (by omega) (by simp; omega) ?_); intro v3 w3 o3 gr3 n3 nb3; clear n3 nb3; have B3 := Lib.hid ((B2.out.trans ((ext_alloc w2 (.cells #[.int .i64 1, .int .i64 0, .int .u64 0, .string gt] 41)).mono B2.out.size)).trans (mgrown (own2.out.alloc _) gr3 (by simp; omega))); clear gr3; replace o3 := Lib.hid o3)
          go_roundw
          case rel => exact ⟨1, by simp, by omega, by rw [hst2.out, hst3.out]; exact o3.out, B3.out⟩
          case measure => simp [intOf]
        · have ht' : ((gn : Int) != 0) = true := by simpa using ht
          replace ht := Lib.hid ht
          go_wp2_with (at_builtin; (refine wpList_append_own_at _ rfl (.tmp 28) (.tmp 36) 39 rfl w1.heap.size 41 i0 _ 4 40 Try.underlying39 hi.out hz0.out hz1.out hz2.out rfl (by decide) _ M.length (fcs M) rfl (own2.out.alloc _) ⟨w2.heap.size, 0, none⟩ 1 1 [.int .i64 1, .int .i64 0, .int .u64 (gn : Nat), .string gt] rfl rfl (cell_four_new _ _ _ _ _ _ rfl) (by intro u hu; simp at hu; rcases hu with rfl | rfl | rfl | rfl <;> rfl) (by unfold maxLen; omega) (by omega) (by simp; omega) ?_); intro v3 w3 o3 gr3 n3 nb3; clear n3 nb3; have B3 := Lib.hid ((B2.out.trans ((ext_alloc w2 (.cells #[.int .i64 1, .int .i64 0, .int .u64 (gn : Nat), .string gt] 41)).mono B2.out.size)).trans (mgrown (own2.out.alloc _) gr3 (by simp; omega))); clear gr3; replace o3 := Lib.hid o3)
          go_roundw
          case rel => exact ⟨1, by simp, by omega, by rw [hst2.out, hst3.out]; exact o3.out, B3.out⟩
          case measure => simp [intOf]
    · have q0 := Blk.cell p0 5
      have q1 := Blk.cell p0 6
      have q2 := Blk.cell p0 7
      have q3 := Blk.cell p0 8
      have q4 := Blk.cell p0 9
      simp only [List.getElem?_toArray, List.getElem?_cons_succ, List.getElem?_cons_zero] at q0 q1 q2 q3 q4
      have h1 := Cap.cell0 p1
      have FP : fieldP m 1 = if getN 1 m = 0 ∧ (getS 1 m).size = 0 then [] else [⟨2, 2, getN 1 m, getS 1 m⟩] := rfl
      have G := Lib.hid (fun w h => get_1 m g1 w h)
      unfold Me.val at G
      rw [em.out] at G
      generalize getN 1 m = gn at *
      generalize getS 1 m = gt at *
      clear p0 p1 p2 p3 p4 p5 p6 p7
      obtain ⟨pc, gpc⟩ : ∃ pc : Array Value, pc = #[.int .i64 2, .int .i64 2, .int .u64 0, .func (.func 45) #[] #[.pointer (some ⟨g1, 0, none⟩)], .func (.func 46) #[] #[.pointer (some ⟨g1, 0, none⟩)]] := ⟨_, rfl⟩
      have hx := capt (.cells pc 49) h1
      rw [gpc] at hx
      have hb0 := ext_alloc wr (.cells pc 49)
      have own1 := mown_below hown hb0
      have bx0 := Blk.new wr 49 pc
      rw [gpc] at hb0 own1 bx0
      replace own1 := Lib.hid own1
      replace hb0 := Lib.hid hb0
      replace bx0 := Lib.hid bx0
      replace gpc := Lib.hid gpc
      clear hown
      go_wp2_with fail
      refine (G.out _ hx).mono ?_
      rintro e w2 ⟨rfl, b2⟩
      have bx := Blk.ext bx0.out b2
      have r0 := Blk.cell bx 0
      have r1 := Blk.cell bx 1
      simp only [List.getElem?_toArray, List.getElem?_cons_succ, List.getElem?_cons_zero] at r0 r1
      have B2 := Lib.hid (ext_trans hb1.out (ext_trans hb0.out b2))
      have own2 := Lib.hid (mown_below own1.out b2)
      have z2 : w1.heap.size ≤ w2.heap.size := B2.out.size
      clear bx b2 q0 q1 q2 q3 q4 h1 hx
      by_cases hz : gn = 0 ∧ gt.size = 0
      · rw [if_pos hz] at FP
        rw [FP, List.append_nil] at hstep
        obtain ⟨rfl, hz⟩ := hz
        obtain rfl := size0 hz
        replace hstep := Lib.hid hstep
        replace FP := Lib.hid FP
        replace hz := Lib.hid hz
        go_wp2_with fail
        go_roundw
        case rel => exact ⟨2, by simp, by omega, by rw [hstep.out]; exact own2.out, B2.out⟩
        case measure => simp [intOf]
      · rw [if_neg hz] at FP
        rw [FP] at hstep
        have hst2 : fcs (fieldsK m 2) = fcs (fieldsK m 1) ++ [.int .i64 2, .int .i64 2, .int .u64 (gn : Nat), .string gt] := by rw [show (2 : Nat) = 1 + 1 from rfl, hstep, fcs_snoc]; rfl
        have hst3 : (fieldsK m 2).length = (fieldsK m 1).length + 1 := by rw [show (2 : Nat) = 1 + 1 from rfl, hstep]; simp
        have ht : (gn = 0 ∧ gt.size ≠ 0) ∨ gn ≠ 0 := by
          by_cases h : gn = 0
          · exact .inl ⟨h, fun h2 => hz ⟨h, h2⟩⟩
          · exact .inr h
        generalize fieldsK m 1 = M at *
        replace hstep := Lib.hid hstep
        replace hst2 := Lib.hid hst2
        replace hst3 := Lib.hid hst3
        replace FP := Lib.hid FP
        clear hz
        rcases ht with ⟨rfl, ht⟩ | ht
        · have ht' := size1 ht
          replace ht := Lib.hid ht
          rw [Int.natCast_zero] at hst2
          go_wp2_with (at_builtin; (refine wpList_append_own_at _ rfl (.tmp 28) (.tmp 36) 39 rfl w1.heap.size 41 i0 _ 4 40 Try.underlying39 hi.out hz0.out hz1.out hz2.out rfl (by decide) _ M.length (fcs M) rfl (own2.out.alloc _) ⟨w2.heap.size, 0, none⟩ 1 1 [.int .i64 2, .int .i64 2, .int .u64 0, .string gt] rfl rfl (cell_four_new _ _ _ _ _ _ rfl) (by intro u hu; simp at hu; rcases hu with rfl | rfl | rfl | rfl <;> rfl) (by unfold maxLen; omega) (by omega) (by simp; omega) ?_); intro v3 w3 o3 gr3 n3 nb3; clear n3 nb3; have B3 := Lib.hid ((B2.out.trans ((ext_alloc w2 (.cells #[.int .i64 2, .int .i64 2, .int .u64 0, .string gt] 41)).mono B2.out.size)).trans (mgrown (own2.out.alloc _) gr3 (by simp; omega))); clear gr3; replace o3 := Lib.hid o3)
          go_roundw
          case rel => exact ⟨2, by simp, by omega, by rw [hst2.out, hst3.out]; exact o3.out, B3.out⟩
          case measure => simp [intOf]
        · have ht' : ((gn : Int) != 0) = true := by simpa using ht
          replace ht := Lib.hid ht
          go_wp2_with (at_builtin; (refine wpList_append_own_at _ rfl (.tmp 28) (.tmp 36) 39 rfl w1.heap.size 41 i0 _ 4 40 Try.underlying39 hi.out hz0.out hz1.out hz2.out rfl (by decide) _ M.length (fcs M) rfl (own2.out.alloc _) ⟨w2.heap.size, 0, none⟩ 1 1 [.int .i64 2, .int .i64 2, .int .u64 (gn : Nat), .string gt] rfl rfl (cell_four_new _ _ _ _ _ _ rfl) (by intro u hu; simp at hu; rcases hu with rfl | rfl | rfl | rfl <;> rfl) (by unfold maxLen; omega) (by omega) (by simp; omega) ?_); intro v3 w3 o3 gr3 n3 nb3; clear n3 nb3; have B3 := Lib.hid ((B2.out.trans ((ext_alloc w2 (.cells #[.int .i64 2, .int .i64 2, .int .u64 (gn : Nat), .string gt] 41)).mono B2.out.size)).trans (mgrown (own2.out.alloc _) gr3 (by simp; omega))); clear gr3; replace o3 := Lib.hid o3)
          go_roundw
          case rel => exact ⟨2, by simp, by omega, by rw [hst2.out, hst3.out]; exact o3.out, B3.out⟩
          case measure => simp [intOf]
    · have q0 := Blk.cell p0 10
      have q1 := Blk.cell p0 11
      have q2 := Blk.cell p0 12
      have q3 := Blk.cell p0 13
      have q4 := Blk.cell p0 14
      simp only [List.getElem?_toArray, List.getElem?_cons_succ, List.getElem?_cons_zero] at q0 q1 q2 q3 q4
      have h2 := Cap.cell0 p2
      have FP : fieldP m 2 = if getN 2 m = 0 ∧ (getS 2 m).size = 0 then [] else [⟨3, 0, getN 2 m, getS 2 m⟩] := rfl
      have G := Lib.hid (fun w h => get_2 m g2 w h)
      unfold Me.val at G
      rw [em.out] at G
      generalize getN 2 m = gn at *
      generalize getS 2 m = gt at *
      clear p0 p1 p2 p3 p4 p5 p6 p7
      obtain ⟨pc, gpc⟩ : ∃ pc : Array Value, pc = #[.int .i64 3, .int .i64 0, .int .u64 18446744073709551615, .func (.func 47) #[] #[.pointer (some ⟨g2, 0, none⟩)], .func (.func 48) #[] #[.pointer (some ⟨g2, 0, none⟩)]] := ⟨_, rfl⟩
      have hx := capt (.cells pc 49) h2
      rw [gpc] at hx
      have hb0 := ext_alloc wr (.cells pc 49)
      have own1 := mown_below hown hb0
      have bx0 := Blk.new wr 49 pc
      rw [gpc] at hb0 own1 bx0
      replace own1 := Lib.hid own1
      replace hb0 := Lib.hid hb0
      replace bx0 := Lib.hid bx0
      replace gpc := Lib.hid gpc
      clear hown
      go_wp2_with fail
      refine (G.out _ hx).mono ?_
      rintro e w2 ⟨rfl, b2⟩
      have bx := Blk.ext bx0.out b2
      have r0 := Blk.cell bx 0
      have r1 := Blk.cell bx 1
      simp only [List.getElem?_toArray, List.getElem?_cons_succ, List.getElem?_cons_zero] at r0 r1
      have B2 := Lib.hid (ext_trans hb1.out (ext_trans hb0.out b2))
      have own2 := Lib.hid (mown_below own1.out b2)
      have z2 : w1.heap.size ≤ w2.heap.size := B2.out.size
      clear bx b2 q0 q1 q2 q3 q4 h2 hx
      by_cases hz : gn = 0 ∧ gt.size = 0
      · rw [if_pos hz] at FP
        rw [FP, List.append_nil] at hstep
        obtain ⟨rfl, hz⟩ := hz
        obtain rfl := size0 hz
        replace hstep := Lib.hid hstep
        replace FP := Lib.hid FP
        replace hz := Lib.hid hz
        go_wp2_with fail
        go_roundw
        case rel => exact ⟨3, by simp, by omega, by rw [hstep.out]; exact own2.out, B2.out⟩
        case measure => simp [intOf]
      · rw [if_neg hz] at FP
        rw [FP] at hstep
        have hst2 : fcs (fieldsK m 3) = fcs (fieldsK m 2) ++ [.int .i64 3, .int .i64 0, .int .u64 (gn : Nat), .string gt] := by rw [show (3 : Nat) = 2 + 1 from rfl, hstep, fcs_snoc]; rfl
        have hst3 : (fieldsK m 3).length = (fieldsK m 2).length + 1 := by rw [show (3 : Nat) = 2 + 1 from rfl, hstep]; simp
        have ht : (gn = 0 ∧ gt.size ≠ 0) ∨ gn ≠ 0 := by
          by_cases h : gn = 0
          · exact .inl ⟨h, fun h2 => hz ⟨h, h2⟩⟩
          · exact .inr h
        generalize fieldsK m 2 = M at *
        replace hstep := Lib.hid hstep
        replace hst2 := Lib.hid hst2
        replace hst3 := Lib.hid hst3
        replace FP := Lib.hid FP
        clear hz
        rcases ht with ⟨rfl, ht⟩ | ht
        · have ht' := size1 ht
          replace ht := Lib.hid ht
          rw [Int.natCast_zero] at hst2
          go_wp2_with (at_builtin; (refine wpList_append_own_at _ rfl (.tmp 28) (.tmp 36) 39 rfl w1.heap.size 41 i0 _ 4 40 Try.underlying39 hi.out hz0.out hz1.out hz2.out rfl (by decide) _ M.length (fcs M) rfl (own2.out.alloc _) ⟨w2.heap.size, 0, none⟩ 1 1 [.int .i64 3, .int .i64 0, .int .u64 0, .string gt] rfl rfl (cell_four_new _ _ _ _ _ _ rfl) (by intro u hu; simp at hu; rcases hu with rfl | rfl | rfl | rfl <;> rfl) (by unfold maxLen; omega) (by omega) (by simp; omega) ?_); intro v3 w3 o3 gr3 n3 nb3; clear n3 nb3; have B3 := Lib.hid ((B2.out.trans ((ext_alloc w2 (.cells #[.int .i64 3, .int .i64 0, .int .u64 0, .string gt] 41)).mono B2.out.size)).trans (mgrown (own2.out.alloc _) gr3 (by simp; omega))); clear gr3; replace o3 := Lib.hid o3)
          go_roundw
          case rel => exact ⟨3, by simp, by omega, by rw [hst2.out, hst3.out]; exact o3.out, B3.out⟩
          case measure => simp [intOf]
        · have ht' : ((gn : Int) != 0) = true := by simpa using ht
          replace ht := Lib.hid ht
          go_wp2_with (at_builtin; (refine wpList_append_own_at _ rfl (.tmp 28) (.tmp 36) 39 rfl w1.heap.size 41 i0 _ 4 40 Try.underlying39 hi.out hz0.out hz1.out hz2.out rfl (by decide) _ M.length (fcs M) rfl (own2.out.alloc _) ⟨w2.heap.size, 0, none⟩ 1 1 [.int .i64 3, .int .i64 0, .int .u64 (gn : Nat), .string gt] rfl rfl (cell_four_new _ _ _ _ _ _ rfl) (by intro u hu; simp at hu; rcases hu with rfl | rfl | rfl | rfl <;> rfl) (by unfold maxLen; omega) (by omega) (by simp; omega) ?_); intro v3 w3 o3 gr3 n3 nb3; clear n3 nb3; have B3 := Lib.hid ((B2.out.trans ((ext_alloc w2 (.cells #[.int .i64 3, .int .i64 0, .int .u64 (gn : Nat), .string gt] 41)).mono B2.out.size)).trans (mgrown (own2.out.alloc _) gr3 (by simp; omega))); clear gr3; replace o3 := Lib.hid o3)
          go_roundw
          case rel => exact ⟨3, by simp, by omega, by rw [hst2.out, hst3.out]; exact o3.out, B3.out⟩
          case measure => simp [intOf]
    · have q0 := Blk.cell p0 15
      have q1 := Blk.cell p0 16
      have q2 := Blk.cell p0 17
      have q3 := Blk.cell p0 18
      have q4 := Blk.cell p0 19
      simp only [List.getElem?_toArray, List.getElem?_cons_succ, List.getElem?_cons_zero] at q0 q1 q2 q3 q4
      have h3 := Cap.cell0 p3
      have FP : fieldP m 3 = if getN 3 m = 0 ∧ (getS 3 m).size = 0 then [] else [⟨4, 0, getN 3 m, getS 3 m⟩] := rfl
      have G := Lib.hid (fun w h => get_3 m g3 w h)
      unfold Me.val at G
      rw [em.out] at G
      generalize getN 3 m = gn at *
      generalize getS 3 m = gt at *
      clear p0 p1 p2 p3 p4 p5 p6 p7
      obtain ⟨pc, gpc⟩ : ∃ pc : Array Value, pc = #[.int .i64 4, .int .i64 0, .int .u64 18446744073709551615, .func (.func 47) #[] #[.pointer (some ⟨g3, 0, none⟩)], .func (.func 48) #[] #[.pointer (some ⟨g3, 0, none⟩)]] := ⟨_, rfl⟩
      have hx := capt (.cells pc 49) h3
      rw [gpc] at hx
      have hb0 := ext_alloc wr (.cells pc 49)
      have own1 := mown_below hown hb0
      have bx0 := Blk.new wr 49 pc
      rw [gpc] at hb0 own1 bx0
      replace own1 := Lib.hid own1
      replace hb0 := Lib.hid hb0
      replace bx0 := Lib.hid bx0
      replace gpc := Lib.hid gpc
      clear hown
      go_wp2_with fail
      refine (G.out _ hx).mono ?_
      rintro e w2 ⟨rfl, b2⟩
      have bx := Blk.ext bx0.out b2
      have r0 := Blk.cell bx 0
      have r1 := Blk.cell bx 1
      simp only [List.getElem?_toArray, List.getElem?_cons_succ, List.getElem?_cons_zero] at r0 r1
      have B2 := Lib.hid (ext_trans hb1.out (ext_trans hb0.out b2))
      have own2 := Lib.hid (mown_below own1.out b2)
      have z2 : w1.heap.size ≤ w2.heap.size := B2.out.size
      clear bx b2 q0 q1 q2 q3 q4 h3 hx
      by_cases hz : gn = 0 ∧ gt.size = 0
      · rw [if_pos hz] at FP
        rw [FP, List.append_nil] at hstep
        obtain ⟨rfl, hz⟩ := hz
        obtain rfl := size0 hz
        replace hstep := Lib.hid hstep
        replace FP := Lib.hid FP
        replace hz := Lib.hid hz
        go_wp2_with fail
        go_roundw
        case rel => exact ⟨4, by simp, by omega, by rw [hstep.out]; exact own2.out, B2.out⟩
        case measure => simp [intOf]
      · rw [if_neg hz] at FP
        rw [FP] at hstep
        have hst2 : fcs (fieldsK m 4) = fcs (fieldsK m 3) ++ [.int .i64 4, .int .i64 0, .int .u64 (gn : Nat), .string gt] := by rw [show (4 : Nat) = 3 + 1 from rfl, hstep, fcs_snoc]; rfl
        have hst3 : (fieldsK m 4).length = (fieldsK m 3).length + 1 := by rw [show (4 : Nat) = 3 + 1 from rfl, hstep]; simp
        have ht : (gn = 0 ∧ gt.size ≠ 0) ∨ gn ≠ 0 := by
          by_cases h : gn = 0
          · exact .inl ⟨h, fun h2 => hz ⟨h, h2⟩⟩
          · exact .inr h
        generalize fieldsK m 3 = M at *
        replace hstep := Lib.hid hstep
        replace hst2 := Lib.hid hst2
        replace hst3 := Lib.hid hst3
        replace FP := Lib.hid FP
        clear hz
        rcases ht with ⟨rfl, ht⟩ | ht
        · have ht' := size1 ht
          replace ht := Lib.hid ht
          rw [Int.natCast_zero] at hst2
          go_wp2_with (at_builtin; (refine wpList_append_own_at _ rfl (.tmp 28) (.tmp 36) 39 rfl w1.heap.size 41 i0 _ 4 40 Try.underlying39 hi.out hz0.out hz1.out hz2.out rfl (by decide) _ M.length (fcs M) rfl (own2.out.alloc _) ⟨w2.heap.size, 0, none⟩ 1 1 [.int .i64 4, .int .i64 0, .int .u64 0, .string gt] rfl rfl (cell_four_new _ _ _ _ _ _ rfl) (by intro u hu; simp at hu; rcases hu with rfl | rfl | rfl | rfl <;> rfl) (by unfold maxLen; omega) (by omega) (by simp; omega) ?_); intro v3 w3 o3 gr3 n3 nb3; clear n3 nb3; have B3 := Lib.hid ((B2.out.trans ((ext_alloc w2 (.cells #[.int .i64 4, .int .i64 0, .int .u64 0, .string gt] 41)).mono B2.out.size)).trans (mgrown (own2.out.alloc _) gr3 (by simp; omega))); clear gr3; replace o3 := Lib.hid o3)
          go_roundw
          case rel => exact ⟨4, by simp, by omega, by rw [hst2.out, hst3.out]; exact o3.out, B3.out⟩
          case measure => simp [intOf]
        · have ht' : ((gn : Int) != 0) = true := by simpa using ht
          replace ht := Lib.hid ht
          go_wp2_with (at_builtin; (refine wpList_append_own_at _ rfl (.tmp 28) (.tmp 36) 39 rfl w1.heap.size 41 i0 _ 4 40 Try.underlying39 hi.out hz0.out hz1.out hz2.out rfl (by decide) _ M.length (fcs M) rfl (own2.out.alloc _) ⟨w2.heap.size, 0, none⟩ 1 1 [.int .i64 4, .int .i64 0, .int .u64 (gn : Nat), .string gt] rfl rfl (cell_four_new _ _ _ _ _ _ rfl) (by intro u hu; simp at hu; rcases hu with rfl | rfl | rfl | rfl <;> rfl) (by unfold maxLen; omega) (by omega) (by simp; omega) ?_); intro v3 w3 o3 gr3 n3 nb3; clear n3 nb3; have B3 := Lib.hid ((B2.out.trans ((ext_alloc w2 (.cells #[.int .i64 4, .int .i64 0, .int .u64 (gn : Nat), .string gt] 41)).mono B2.out.size)).trans (mgrown (own2.out.alloc _) gr3 (by simp; omega))); clear gr3; replace o3 := Lib.hid o3)
          go_roundw
          case rel => exact ⟨4, by simp, by omega, by rw [hst2.out, hst3.out]; exact o3.out, B3.out⟩
          case measure => simp [intOf]
    · have q0 := Blk.cell p0 20
      have q1 := Blk.cell p0 21
      have q2 := Blk.cell p0 22
      have q3 := Blk.cell p0 23
      have q4 := Blk.cell p0 24
      simp only [List.getElem?_toArray, List.getElem?_cons_succ, List.getElem?_cons_zero] at q0 q1 q2 q3 q4
      have h4 := Cap.cell0 p4
      have FP : fieldP m 4 = if getN 4 m = 0 ∧ (getS 4 m).size = 0 then [] else [⟨5, 2, getN 4 m, getS 4 m⟩] := rfl
      have G := Lib.hid (fun w h => get_4 m g4 w h)
      unfold Me.val at G
      rw [em.out] at G
      generalize getN 4 m = gn at *
      generalize getS 4 m = gt at *
      clear p0 p1 p2 p3 p4 p5 p6 p7
      obtain ⟨pc, gpc⟩ : ∃ pc : Array Value, pc = #[.int .i64 5, .int .i64 2, .int .u64 0, .func (.func 45) #[] #[.pointer (some ⟨g4, 0, none⟩)], .func (.func 46) #[] #[.pointer (some ⟨g4, 0, none⟩)]] := ⟨_, rfl⟩
      have hx := capt (.cells pc 49) h4
      rw [gpc] at hx
      have hb0 := ext_alloc wr (.cells pc 49)
      have own1 := mown_below hown hb0
      have bx0 := Blk.new wr 49 pc
      rw [gpc] at hb0 own1 bx0
      replace own1 := Lib.hid own1
      replace hb0 := Lib.hid hb0
      replace bx0 := Lib.hid bx0
      replace gpc := Lib.hid gpc
      clear hown
      go_wp2_with fail
      refine (G.out _ hx).mono ?_
      rintro e w2 ⟨rfl, b2⟩
      have bx := Blk.ext bx0.out b2
      have r0 := Blk.cell bx 0
      have r1 := Blk.cell bx 1
      simp only [List.getElem?_toArray, List.getElem?_cons_succ, List.getElem?_cons_zero] at r0 r1
      have B2 := Lib.hid (ext_trans hb1.out (ext_trans hb0.out b2))
      have own2 := Lib.hid (mown_below own1.out b2)
      have z2 : w1.heap.size ≤ w2.heap.size := B2.out.size
      clear bx b2 q0 q1 q2 q3 q4 h4 hx
      by_cases hz : gn = 0 ∧ gt.size = 0
      · rw [if_pos hz] at FP
        rw [FP, List.append_nil] at hstep
        obtain ⟨rfl, hz⟩ := hz
        obtain rfl := size0 hz
        replace hstep := Lib.hid hstep
        replace FP := Lib.hid FP
        replace hz := Lib.hid hz
        go_wp2_with fail
        go_roundw
        case rel => exact ⟨5, by simp, by omega, by rw [hstep.out]; exact own2.out, B2.out⟩
        case measure => simp [intOf]
      · rw [if_neg hz] at FP
        rw [FP] at hstep
        have hst2 : fcs (fieldsK m 5) = fcs (fieldsK m 4) ++ [.int .i64 5, .int .i64 2, .int .u64 (gn : Nat), .string gt] := by rw [show (5 : Nat) = 4 + 1 from rfl, hstep, fcs_snoc]; rfl
        have hst3 : (fieldsK m 5).length = (fieldsK m 4).length + 1 := by rw [show (5 : Nat) = 4 + 1 from rfl, hstep]; simp
        have ht : (gn = 0 ∧ gt.size ≠ 0) ∨ gn ≠ 0 := by
          by_cases h : gn = 0
          · exact .inl ⟨h, fun h2 => hz ⟨h, h2⟩⟩
          · exact .inr h
        generalize fieldsK m 4 = M at *
        replace hstep := Lib.hid hstep
        replace hst2 := Lib.hid hst2
        replace hst3 := Lib.hid hst3
        replace FP := Lib.hid FP
        clear hz
        rcases ht with ⟨rfl, ht⟩ | ht
        · have ht' := size1 ht
          replace ht := Lib.hid ht
          rw [Int.natCast_zero] at hst2
          go_wp2_with (at_builtin; (refine wpList_append_own_at _ rfl (.tmp 28) (.tmp 36) 39 rfl w1.heap.size 41 i0 _ 4 40 Try.underlying39 hi.out hz0.out hz1.out hz2.out rfl (by decide) _ M.length (fcs M) rfl (own2.out.alloc _) ⟨w2.heap.size, 0, none⟩ 1 1 [.int .i64 5, .int .i64 2, .int .u64 0, .string gt] rfl rfl (cell_four_new _ _ _ _ _ _ rfl) (by intro u hu; simp at hu; rcases hu with rfl | rfl | rfl | rfl <;> rfl) (by unfold maxLen; omega) (by omega) (by simp; omega) ?_); intro v3 w3 o3 gr3 n3 nb3; clear n3 nb3; have B3 := Lib.hid ((B2.out.trans ((ext_alloc w2 (.cells #[.int .i64 5, .int .i64 2, .int .u64 0, .string gt] 41)).mono B2.out.size)).trans (mgrown (own2.out.alloc _) gr3 (by simp; omega))); clear gr3; replace o3 := Lib.hid o3)
          go_roundw
          case rel => exact ⟨5, by simp, by omega, by rw [hst2.out, hst3.out]; exact o3.out, B3.out⟩
          case measure => simp [intOf]
        · have ht' : ((gn : Int) != 0) = true := by simpa using ht
          replace ht := Lib.hid ht
          go_wp2_with (at_builtin; (refine wpList_append_own_at _ rfl (.tmp 28) (.tmp 36) 39 rfl w1.heap.size 41 i0 _ 4 40 Try.underlying39 hi.out hz0.out hz1.out hz2.out rfl (by decide) _ M.length (fcs M) rfl (own2.out.alloc _) ⟨w2.heap.size, 0, none⟩ 1 1 [.int .i64 5, .int .i64 2, .int .u64 (gn : Nat), .string gt] rfl rfl (cell_four_new _ _ _ _ _ _ rfl) (by intro u hu; simp at hu; rcases hu with rfl | rfl | rfl | rfl <;> rfl) (by unfold maxLen; omega) (by omega) (by simp; omega) ?_); intro v3 w3 o3 gr3 n3 nb3; clear n3 nb3; have B3 := Lib.hid ((B2.out.trans ((ext_alloc w2 (.cells #[.int .i64 5, .int .i64 2, .int .u64 (gn : Nat), .string gt] 41)).mono B2.out.size)).trans (mgrown (own2.out.alloc _) gr3 (by simp; omega))); clear gr3; replace o3 := Lib.hid o3)
          go_roundw
          case rel => exact ⟨5, by simp, by omega, by rw [hst2.out, hst3.out]; exact o3.out, B3.out⟩
          case measure => simp [intOf]
    · have q0 := Blk.cell p0 25
      have q1 := Blk.cell p0 26
      have q2 := Blk.cell p0 27
      have q3 := Blk.cell p0 28
      have q4 := Blk.cell p0 29
      simp only [List.getElem?_toArray, List.getElem?_cons_succ, List.getElem?_cons_zero] at q0 q1 q2 q3 q4
      have h5 := Cap.cell0 p5
      have FP : fieldP m 5 = if getN 5 m = 0 ∧ (getS 5 m).size = 0 then [] else [⟨6, 2, getN 5 m, getS 5 m⟩] := rfl
      have G := Lib.hid (fun w h => get_5 m g5 w h)
      unfold Me.val at G
      rw [em.out] at G
      generalize getN 5 m = gn at *
      generalize getS 5 m = gt at *
      clear p0 p1 p2 p3 p4 p5 p6 p7
      obtain ⟨pc, gpc⟩ : ∃ pc : Array Value, pc = #[.int .i64 6, .int .i64 2, .int .u64 0, .func (.func 45) #[] #[.pointer (some ⟨g5, 0, none⟩)], .func (.func 46) #[] #[.pointer (some ⟨g5, 0, none⟩)]] := ⟨_, rfl⟩
      have hx := capt (.cells pc 49) h5
      rw [gpc] at hx
      have hb0 := ext_alloc wr (.cells pc 49)
      have own1 := mown_below hown hb0
      have bx0 := Blk.new wr 49 pc
      rw [gpc] at hb0 own1 bx0
      replace own1 := Lib.hid own1
      replace hb0 := Lib.hid hb0
      replace bx0 := Lib.hid bx0
      replace gpc := Lib.hid gpc
      clear hown
      go_wp2_with fail
      refine (G.out _ hx).mono ?_
      rintro e w2 ⟨rfl, b2⟩
      have bx := Blk.ext bx0.out b2
      have r0 := Blk.cell bx 0
      have r1 := Blk.cell bx 1
      simp only [List.getElem?_toArray, List.getElem?_cons_succ, List.getElem?_cons_zero] at r0 r1
      have B2 := Lib.hid (ext_trans hb1.out (ext_trans hb0.out b2))
      have own2 := Lib.hid (mown_below own1.out b2)
      have z2 : w1.heap.size ≤ w2.heap.size := B2.out.size
      clear bx b2 q0 q1 q2 q3 q4 h5 hx
      by_cases hz : gn = 0 ∧ gt.size = 0
      · rw [if_pos hz] at FP
        rw [FP, List.append_nil] at hstep
        obtain ⟨rfl, hz⟩ := hz
        obtain rfl := size0 hz
        replace hstep := Lib.hid hstep
        replace FP := Lib.hid FP
        replace hz := Lib.hid hz
        go_wp2_with fail
        go_roundw
        case rel => exact ⟨6, by simp, by omega, by rw [hstep.out]; exact own2.out, B2.out⟩
        case measure => simp [intOf]
      · rw [if_neg hz] at FP
        rw [FP] at hstep
        have hst2 : fcs (fieldsK m 6) = fcs (fieldsK m 5) ++ [.int .i64 6, .int .i64 2, .int .u64 (gn : Nat), .string gt] := by rw [show (6 : Nat) = 5 + 1 from rfl, hstep, fcs_snoc]; rfl
        have hst3 : (fieldsK m 6).length = (fieldsK m 5).length + 1 := by rw [show (6 : Nat) = 5 + 1 from rfl, hstep]; simp
        have ht : (gn = 0 ∧ gt.size ≠ 0) ∨ gn ≠ 0 := by
          by_cases h : gn = 0
          · exact .inl ⟨h, fun h2 => hz ⟨h, h2⟩⟩
          · exact .inr h
        generalize fieldsK m 5 = M at *
        replace hstep := Lib.hid hstep
        replace hst2 := Lib.hid hst2
        replace hst3 := Lib.hid hst3
        replace FP := Lib.hid FP
        clear hz
        rcases ht with ⟨rfl, ht⟩ | ht
        · have ht' := size1 ht
          replace ht := Lib.hid ht
          rw [Int.natCast_zero] at hst2
          go_wp2_with (at_builtin; (refine wpList_append_own_at _ rfl (.tmp 28) (.tmp 36) 39 rfl w1.heap.size 41 i0 _ 4 40 Try.underlying39 hi.out hz0.out hz1.out hz2.out rfl (by decide) _ M.length (fcs M) rfl (own2.out.alloc _) ⟨w2.heap.size, 0, none⟩ 1 1 [.int .i64 6, .int .i64 2, .int .u64 0, .string gt] rfl rfl (cell_four_new _ _ _ _ _ _ rfl) (by intro u hu; simp at hu; rcases hu with rfl | rfl | rfl | rfl <;> rfl) (by unfold maxLen; omega) (by omega) (by simp; omega) ?_); intro v3 w3 o3 gr3 n3 nb3; clear n3 nb3; have B3 := Lib.hid ((B2.out.trans ((ext_alloc w2 (.cells #[.int .i64 6, .int .i64 2, .int .u64 0, .string gt] 41)).mono B2.out.size)).trans (mgrown (own2.out.alloc _) gr3 (by simp; omega))); clear gr3; replace o3 := Lib.hid o3)
          go_roundw
          case rel => exact ⟨6, by simp, by omega, by rw [hst2.out, hst3.out]; exact o3.out, B3.out⟩
          case measure => simp [intOf]
        · have ht' : ((gn : Int) != 0) = true := by simpa using ht
          replace ht := Lib.hid ht
          go_wp2_with (at_builtin; (refine wpList_append_own_at _ rfl (.tmp 28) (.tmp 36) 39 rfl w1.heap.size 41 i0 _ 4 40 Try.underlying39 hi.out hz0.out hz1.out hz2.out rfl (by decide) _ M.length (fcs M) rfl (own2.out.alloc _) ⟨w2.heap.size, 0, none⟩ 1 1 [.int .i64 6, .int .i64 2, .int .u64 (gn : Nat), .string gt] rfl rfl (cell_four_new _ _ _ _ _ _ rfl) (by intro u hu; simp at hu; rcases hu with rfl | rfl | rfl | rfl <;> rfl) (by unfold maxLen; omega) (by omega) (by simp; omega) ?_); intro v3 w3 o3 gr3 n3 nb3; clear n3 nb3; have B3 := Lib.hid ((B2.out.trans ((ext_alloc w2 (.cells #[.int .i64 6, .int .i64 2, .int .u64 (gn : Nat), .string gt] 41)).mono B2.out.size)).trans (mgrown (own2.out.alloc _) gr3 (by simp; omega))); clear gr3; replace o3 := Lib.hid o3)
          go_roundw
          case rel => exact ⟨6, by simp, by omega, by rw [hst2.out, hst3.out]; exact o3.out, B3.out⟩
          case measure => simp [intOf]
    · have q0 := Blk.cell p0 30
      have q1 := Blk.cell p0 31
      have q2 := Blk.cell p0 32
      have q3 := Blk.cell p0 33
      have q4 := Blk.cell p0 34
      simp only [List.getElem?_toArray, List.getElem?_cons_succ, List.getElem?_cons_zero] at q0 q1 q2 q3 q4
      have h6 := Cap.cell0 p6
      have FP : fieldP m 6 = if getN 6 m = 0 ∧ (getS 6 m).size = 0 then [] else [⟨7, 2, getN 6 m, getS 6 m⟩] := rfl
      have G := Lib.hid (fun w h => get_6 m g6 w h)
      unfold Me.val at G
      rw [em.out] at G
      generalize getN 6 m = gn at *
      generalize getS 6 m = gt at *
      clear p0 p1 p2 p3 p4 p5 p6 p7
      obtain ⟨pc, gpc⟩ : ∃ pc : Array Value, pc = #[.int .i64 7, .int .i64 2, .int .u64 0, .func (.func 45) #[] #[.pointer (some ⟨g6, 0, none⟩)], .func (.func 46) #[] #[.pointer (some ⟨g6, 0, none⟩)]] := ⟨_, rfl⟩
      have hx := capt (.cells pc 49) h6
      rw [gpc] at hx
      have hb0 := ext_alloc wr (.cells pc 49)
      have own1 := mown_below hown hb0
      have bx0 := Blk.new wr 49 pc
      rw [gpc] at hb0 own1 bx0
      replace own1 := Lib.hid own1
      replace hb0 := Lib.hid hb0
      replace bx0 := Lib.hid bx0
      replace gpc := Lib.hid gpc
      clear hown
      go_wp2_with fail
      refine (G.out _ hx).mono ?_
      rintro e w2 ⟨rfl, b2⟩
      have bx := Blk.ext bx0.out b2
      have r0 := Blk.cell bx 0
      have r1 := Blk.cell bx 1
      simp only [List.getElem?_toArray, List.getElem?_cons_succ, List.getElem?_cons_zero] at r0 r1
      have B2 := Lib.hid (ext_trans hb1.out (ext_trans hb0.out b2))
      have own2 := Lib.hid (mown_below own1.out b2)
      have z2 : w1.heap.size ≤ w2.heap.size := B2.out.size
      clear bx b2 q0 q1 q2 q3 q4 h6 hx
      by_cases hz : gn = 0 ∧ gt.size = 0
      · rw [if_pos hz] at FP
        rw [FP, List.append_nil] at hstep
        obtain ⟨rfl, hz⟩ := hz
        obtain rfl := size0 hz
        replace hstep := Lib.hid hstep
        replace FP := Lib.hid FP
        replace hz := Lib.hid hz
        go_wp2_with fail
        go_roundw
        case rel => exact ⟨7, by simp, by omega, by rw [hstep.out]; exact own2.out, B2.out⟩
        case measure => simp [intOf]
      · rw [if_neg hz] at FP
        rw [FP] at hstep
        have hst2 : fcs (fieldsK m 7) = fcs (fieldsK m 6) ++ [.int .i64 7, .int .i64 2, .int .u64 (gn : Nat), .string gt] := by rw [show (7 : Nat) = 6 + 1 from rfl, hstep, fcs_snoc]; rfl
        have hst3 : (fieldsK m 7).length = (fieldsK m 6).length + 1 := by rw [show (7 : Nat) = 6 + 1 from rfl, hstep]; simp
        have ht : (gn = 0 ∧ gt.size ≠ 0) ∨ gn ≠ 0 := by
          by_cases h : gn = 0
          · exact .inl ⟨h, fun h2 => hz ⟨h, h2⟩⟩
          · exact .inr h
        generalize fieldsK m 6 = M at *
        replace hstep := Lib.hid hstep
        replace hst2 := Lib.hid hst2
        replace hst3 := Lib.hid hst3
        replace FP := Lib.hid FP
        clear hz
        rcases ht with ⟨rfl, ht⟩ | ht
        · have ht' := size1 ht
          replace ht := Lib.hid ht
          rw [Int.natCast_zero] at hst2
          go_wp2_with (at_builtin; (refine wpList_append_own_at _ rfl (.tmp 28) (.tmp 36) 39 rfl w1.heap.size 41 i0 _ 4 40 Try.underlying39 hi.out hz0.out hz1.out hz2.out rfl (by decide) _ M.length (fcs M) rfl (own2.out.alloc _) ⟨w2.heap.size, 0, none⟩ 1 1 [.int .i64 7, .int .i64 2, .int .u64 0, .string gt] rfl rfl (cell_four_new _ _ _ _ _ _ rfl) (by intro u hu; simp at hu; rcases hu with rfl | rfl | rfl | rfl <;> rfl) (by unfold maxLen; omega) (by omega) (by simp; omega) ?_); intro v3 w3 o3 gr3 n3 nb3; clear n3 nb3; have B3 := Lib.hid ((B2.out.trans ((ext_alloc w2 (.cells #[.int .i64 7, .int .i64 2, .int .u64 0, .string gt] 41)).mono B2.out.size)).trans (mgrown (own2.out.alloc _) gr3 (by simp; omega))); clear gr3; replace o3 := Lib.hid o3)
          go_roundw
          case rel => exact ⟨7, by simp, by omega, by rw [hst2.out, hst3.out]; exact o3.out, B3.out⟩
          case measure => simp [intOf]
        · have ht' : ((gn : Int) != 0) = true := by simpa using ht
          replace ht := Lib.hid ht
          go_wp2_with (at_builtin; (refine wpList_append_own_at _ rfl (.tmp 28) (.tmp 36) 39 rfl w1.heap.size 41 i0 _ 4 40 Try.underlying39 hi.out hz0.out hz1.out hz2.out rfl (by decide) _ M.length (fcs M) rfl (own2.out.alloc _) ⟨w2.heap.size, 0, none⟩ 1 1 [.int .i64 7, .int .i64 2, .int .u64 (gn : Nat), .string gt] rfl rfl (cell_four_new _ _ _ _ _ _ rfl) (by intro u hu; simp at hu; rcases hu with rfl | rfl | rfl | rfl <;> rfl) (by unfold maxLen; omega) (by omega) (by simp; omega) ?_); intro v3 w3 o3 gr3 n3 nb3; clear n3 nb3; have B3 := Lib.hid ((B2.out.trans ((ext_alloc w2 (.cells #[.int .i64 7, .int .i64 2, .int .u64 (gn : Nat), .string gt] 41)).mono B2.out.size)).trans (mgrown (own2.out.alloc _) gr3 (by simp; omega))); clear gr3; replace o3 := Lib.hid o3)
          go_roundw
          case rel => exact ⟨7, by simp, by omega, by rw [hst2.out, hst3.out]; exact o3.out, B3.out⟩
          case measure => simp [intOf]
    · have q0 := Blk.cell p0 35
      have q1 := Blk.cell p0 36
      have q2 := Blk.cell p0 37
      have q3 := Blk.cell p0 38
      have q4 := Blk.cell p0 39
      simp only [List.getElem?_toArray, List.getElem?_cons_succ, List.getElem?_cons_zero] at q0 q1 q2 q3 q4
      have h7 := Cap.cell0 p7
      have FP : fieldP m 7 = if getN 7 m = 0 ∧ (getS 7 m).size = 0 then [] else [⟨8, 2, getN 7 m, getS 7 m⟩] := rfl
      have G := Lib.hid (fun w h => get_7 m g7 w h)
      unfold Me.val at G
      rw [em.out] at G
      generalize getN 7 m = gn at *
      generalize getS 7 m = gt at *
      clear p0 p1 p2 p3 p4 p5 p6 p7
      obtain ⟨pc, gpc⟩ : ∃ pc : Array Value, pc = #[.int .i64 8, .int .i64 2, .int .u64 0, .func (.func 45) #[] #[.pointer (some ⟨g7, 0, none⟩)], .func (.func 46) #[] #[.pointer (some ⟨g7, 0, none⟩)]] := ⟨_, rfl⟩
      have hx := capt (.cells pc 49) h7
      rw [gpc] at hx
      have hb0 := ext_alloc wr (.cells pc 49)
      have own1 := mown_below hown hb0
      have bx0 := Blk.new wr 49 pc
      rw [gpc] at hb0 own1 bx0
      replace own1 := Lib.hid own1
      replace hb0 := Lib.hid hb0
      replace bx0 := Lib.hid bx0
      replace gpc := Lib.hid gpc
      clear hown
      go_wp2_with fail
      refine (G.out _ hx).mono ?_
      rintro e w2 ⟨rfl, b2⟩
      have bx := Blk.ext bx0.out b2
      have r0 := Blk.cell bx 0
      have r1 := Blk.cell bx 1
      simp only [List.getElem?_toArray, List.getElem?_cons_succ, List.getElem?_cons_zero] at r0 r1
      have B2 := Lib.hid (ext_trans hb1.out (ext_trans hb0.out b2))
      have own2 := Lib.hid (mown_below own1.out b2)
      have z2 : w1.heap.size ≤ w2.heap.size := B2.out.size
      clear bx b2 q0 q1 q2 q3 q4 h7 hx
      by_cases hz : gn = 0 ∧ gt.size = 0
      · rw [if_pos hz] at FP
        rw [FP, List.append_nil] at hstep
        obtain ⟨rfl, hz⟩ := hz
        obtain rfl := size0 hz
        replace hstep := Lib.hid hstep
        replace FP := Lib.hid FP
        replace hz := Lib.hid hz
        go_wp2_with fail
        go_roundw
        case rel => exact ⟨8, by simp, by omega, by rw [hstep.out]; exact own2.out, B2.out⟩
        case measure => simp [intOf]
      · rw [if_neg hz] at FP
        rw [FP] at hstep
        have hst2 : fcs (fieldsK m 8) = fcs (fieldsK m 7) ++ [.int .i64 8, .int .i64 2, .int .u64 (gn : Nat), .string gt] := by rw [show (8 : Nat) = 7 + 1 from rfl, hstep, fcs_snoc]; rfl
        have hst3 : (fieldsK m 8).length = (fieldsK m 7).length + 1 := by rw [show (8 : Nat) = 7 + 1 from rfl, hstep]; simp
        have ht : (gn = 0 ∧ gt.size ≠ 0) ∨ gn ≠ 0 := by
          by_cases h : gn = 0
          · exact .inl ⟨h, fun h2 => hz ⟨h, h2⟩⟩
          · exact .inr h
        generalize fieldsK m 7 = M at *
        replace hstep := Lib.hid hstep
        replace hst2 := Lib.hid hst2
        replace hst3 := Lib.hid hst3
        replace FP := Lib.hid FP
        clear hz
        rcases ht with ⟨rfl, ht⟩ | ht
        · have ht' := size1 ht
          replace ht := Lib.hid ht
          rw [Int.natCast_zero] at hst2
          go_wp2_with (at_builtin; (refine wpList_append_own_at _ rfl (.tmp 28) (.tmp 36) 39 rfl w1.heap.size 41 i0 _ 4 40 Try.underlying39 hi.out hz0.out hz1.out hz2.out rfl (by decide) _ M.length (fcs M) rfl (own2.out.alloc _) ⟨w2.heap.size, 0, none⟩ 1 1 [.int .i64 8, .int .i64 2, .int .u64 0, .string gt] rfl rfl (cell_four_new _ _ _ _ _ _ rfl) (by intro u hu; simp at hu; rcases hu with rfl | rfl | rfl | rfl <;> rfl) (by unfold maxLen; omega) (by omega) (by simp; omega) ?_); intro v3 w3 o3 gr3 n3 nb3; clear n3 nb3; have B3 := Lib.hid ((B2.out.trans ((ext_alloc w2 (.cells #[.int .i64 8, .int .i64 2, .int .u64 0, .string gt] 41)).mono B2.out.size)).trans (mgrown (own2.out.alloc _) gr3 (by simp; omega))); clear gr3; replace o3 := Lib.hid o3)
          go_roundw
          case rel => exact ⟨8, by simp, by omega, by rw [hst2.out, hst3.out]; exact o3.out, B3.out⟩
          case measure => simp [intOf]
        · have ht' : ((gn : Int) != 0) = true := by simpa using ht
          replace ht := Lib.hid ht
          go_wp2_with (at_builtin; (refine wpList_append_own_at _ rfl (.tmp 28) (.tmp 36) 39 rfl w1.heap.size 41 i0 _ 4 40 Try.underlying39 hi.out hz0.out hz1.out hz2.out rfl (by decide) _ M.length (fcs M) rfl (own2.out.alloc _) ⟨w2.heap.size, 0, none⟩ 1 1 [.int .i64 8, .int .i64 2, .int .u64 (gn : Nat), .string gt] rfl rfl (cell_four_new _ _ _ _ _ _ rfl) (by intro u hu; simp at hu; rcases hu with rfl | rfl | rfl | rfl <;> rfl) (by unfold maxLen; omega) (by omega) (by simp; omega) ?_); intro v3 w3 o3 gr3 n3 nb3; clear n3 nb3; have B3 := Lib.hid ((B2.out.trans ((ext_alloc w2 (.cells #[.int .i64 8, .int .i64 2, .int .u64 (gn : Nat), .string gt] 41)).mono B2.out.size)).trans (mgrown (own2.out.alloc _) gr3 (by simp; omega))); clear gr3; replace o3 := Lib.hid o3)
          go_roundw
          case rel => exact ⟨8, by simp, by omega, by rw [hst2.out, hst3.out]; exact o3.out, B3.out⟩
          case measure => simp [intOf]
end Go.Proofs.Ytoglgdkeknojkaa

/-
  LAYER 23: do on both flights says true.
-/
import Derived.Test.YtcjoemejoeekiaaNf
import Derived.Test.YtcjoemejoeekiaaFi
namespace Go.Proofs.Ytcjoemejoeekiaa.Fli
open Go.RowKit Que Hp Ids
section
variable {w W R : World} {f g x : Nat} {T : List Bool} {L : List Se} {v : Value}
set_option maxHeartbeats 16000000 in
set_option maxRecDepth 100000 in
theorem do_both (h : FB R w W f g x (fun _ => False) T L v L) (hi : Inv L) (K n : Int) (t y : ByteArray) (q : Int) (r : Bool) :
    Calls Try.prog 29 #[.pointer (some ⟨f, 0, none⟩), .pointer (some ⟨x, 0, none⟩), .agg #[.int .i64 K, .int .i64 n, .string t, .string y, .int .i64 q, .bool r]] W fun e w' => e = .returned (.bool true) ∧ ∃ T' L' v', FB R w w' f g x (fun _ => False) T' L' v' L' ∧ Inv L' := by
  have hb := ext_alloc W (.cells #[.int .i64 K, .int .i64 n, .string t, .string y, .int .i64 q, .bool r] 67)
  have hrow : (W.alloc (.cells #[.int .i64 K, .int .i64 n, .string t, .string y, .int .i64 q, .bool r] 67)).heap[W.heap.size]? = some (.cells #[.int .i64 K, .int .i64 n, .string t, .string y, .int .i64 q, .bool r] 67 (0, 0)) := heap_alloc_new W _
  have h1 := h.more (E' := fun k => k = W.heap.size) hb (by rintro k rfl; exact ⟨Nat.le_refl _, by simp⟩)
  have b0 := cell_of_row _ W.heap.size 0 _ 67 (0, 0) hrow
  have b1 := cell_of_row _ W.heap.size 1 _ 67 (0, 0) hrow
  have b2 := cell_of_row _ W.heap.size 2 _ 67 (0, 0) hrow
  have b3 := cell_of_row _ W.heap.size 3 _ 67 (0, 0) hrow
  have b4 := cell_of_row _ W.heap.size 4 _ 67 (0, 0) hrow
  have b5 := cell_of_row _ W.heap.size 5 _ 67 (0, 0) hrow
  have CC0 := b0
  simp only [List.getElem?_toArray, List.getElem?_cons_zero, List.getElem?_cons_succ] at b0 b1 b2 b3 b4 b5
  have KB : Hid (∀ W2 T2 L2 v2 Lx, FB (W.alloc (.cells #[.int .i64 K, .int .i64 n, .string t, .string y, .int .i64 q, .bool r] 67)) w W2 f g x (fun k => k = W.heap.size) T2 L2 v2 Lx → W2.heap[W.heap.size]? = some (.cells #[.int .i64 K, .int .i64 n, .string t, .string y, .int .i64 q, .bool r] 67 (0, 0))) := Lib.hid fun W2 T2 L2 v2 Lx h2 => (h2.ro _ rfl).1.trans hrow
  have CD : Hid (∀ W2 {T2 L2 v2 Lx}, FB (W.alloc (.cells #[.int .i64 K, .int .i64 n, .string t, .string y, .int .i64 q, .bool r] 67)) w W2 f g x (fun k => k = W.heap.size) T2 L2 v2 Lx → W2.cell? ⟨W.heap.size, 1, none⟩ = some (.int .i64 n)) := Lib.hid fun W2 T2 L2 v2 Lx h2 => by
    have := cell_of_row _ W.heap.size 1 _ 67 (0, 0) (KB.out _ _ _ _ _ h2)
    simpa using this
  replace h1 := Lib.hid h1
  replace hi := Lib.hid hi
  have h0 := Lib.hid h
  clear h hb hrow
  by_cases hK : K = 0 ∨ K = 1
  · obtain ⟨a, c, L', hi', PA, PB⟩ := two_send h1.out hi.out t y q r
    replace hi' := Lib.hid hi'
    replace PA := Lib.hid PA
    replace PB := Lib.hid PB
    rcases hK with rfl | rfl
    all_goals
      go_enter Try.func29, Try.ntmps29
      go_wp2_with fail
      refine (PA.out _ (Below.refl _ _)).mono ?_
      rintro e w2 ⟨rfl, T2, I2⟩
      have r2 := KB.out _ _ _ _ _ I2
      have c2 := cell_of_row _ W.heap.size 2 _ 67 (0, 0) r2
      have c3 := cell_of_row _ W.heap.size 3 _ 67 (0, 0) r2
      have c4 := cell_of_row _ W.heap.size 4 _ 67 (0, 0) r2
      have c5 := cell_of_row _ W.heap.size 5 _ 67 (0, 0) r2
      simp only [List.getElem?_toArray, List.getElem?_cons_zero, List.getElem?_cons_succ] at c2 c3 c4 c5
      have XS := Lib.hid (PB.out _ _ I2)
      clear I2 r2 PA PB KB CD b0 b1 b2 b3 b4 b5 CC0
      go_wp2_with fail
      refine XS.out.mono ?_
      rintro e w3 ⟨rfl, v3, I3⟩
      have Z := Lib.hid (FB.fin (R' := R) I3)
      clear I3 XS
      go_wp2_with fail
      go_ret
      exact ⟨rfl, _, _, _, Z.out, hi'.out⟩
  · have k0 : (K == 0) = false := by simp; exact fun e => hK (.inl e)
    have k1 : (K == 1) = false := by simp; exact fun e => hK (.inr e)
    clear hK
    by_cases hK2 : K = 2
    · subst hK2
      obtain ⟨b, L', hi', PA, PB⟩ := two_ack h1.out hi.out n
      replace hi' := Lib.hid hi'
      replace PA := Lib.hid PA
      replace PB := Lib.hid PB
      have C0 : Hid ((W.alloc (.cells #[.int .i64 2, .int .i64 n, .string t, .string y, .int .i64 q, .bool r] 67)).cell? ⟨W.heap.size, 1, none⟩ = some (.int .i64 n)) := Lib.hid b1
      clear KB b0 b1 b2 b3 b4 b5
      have b0 := CC0
      simp only [List.getElem?_toArray, List.getElem?_cons_zero] at b0
      have b1 := C0.out
      go_enter Try.func29, Try.ntmps29
      go_wp2_with fail
      go_region_held3 (fun V => V.cell? ⟨W.heap.size, 1, none⟩ = some (.int .i64 n))
        (first | exact C0.out | exact ((ext_drew _).cell (by simp)).trans C0.out | exact CD.out _ I6 | exact CD.out _ (I6.ext (ext_drew _)) | exact CD.out _ I5 | exact CD.out _ (I5.ext (ext_drew _)))
        (first
          | (go_at_call 37; refine (PA.out _ (by first | exact Below.refl _ _ | exact ext_drew _)).mono ?_; rintro e w5 ⟨rfl, T5, I5⟩)
          | (go_at_call 49; refine (PB.out _ _ (by first | exact I5 | exact I5.ext (ext_drew _))).mono ?_; rintro e w6 ⟨rfl, v6, I6⟩))
      all_goals
        have Z := Lib.hid (FB.fin (R' := R) (by first | exact I6 | exact I6.ext (ext_drew _) | exact I6.ext (ext_trans (ext_drew _) (ext_drew _))))
        clear I5 I6
        go_wp2_with fail
        go_ret
        exact ⟨rfl, _, _, _, Z.out, hi'.out⟩
    by_cases hK3 : K = 3
    · subst hK3
      obtain ⟨b, L', hi', PA, PB⟩ := two_rec h1.out hi.out n
      replace hi' := Lib.hid hi'
      replace PA := Lib.hid PA
      replace PB := Lib.hid PB
      have C0 : Hid ((W.alloc (.cells #[.int .i64 3, .int .i64 n, .string t, .string y, .int .i64 q, .bool r] 67)).cell? ⟨W.heap.size, 1, none⟩ = some (.int .i64 n)) := Lib.hid b1
      clear KB b0 b1 b2 b3 b4 b5
      have b0 := CC0
      simp only [List.getElem?_toArray, List.getElem?_cons_zero] at b0
      have b1 := C0.out
      go_enter Try.func29, Try.ntmps29
      go_wp2_with fail
      go_region_held3 (fun V => V.cell? ⟨W.heap.size, 1, none⟩ = some (.int .i64 n))
        (first | exact C0.out | exact ((ext_drew _).cell (by simp)).trans C0.out | exact CD.out _ I6 | exact CD.out _ (I6.ext (ext_drew _)) | exact CD.out _ I5 | exact CD.out _ (I5.ext (ext_drew _)))
        (first
          | (go_at_call 39; refine (PA.out _ (by first | exact Below.refl _ _ | exact ext_drew _)).mono ?_; rintro e w5 ⟨rfl, T5, I5⟩)
          | (go_at_call 50; refine (PB.out _ _ (by first | exact I5 | exact I5.ext (ext_drew _))).mono ?_; rintro e w6 ⟨rfl, v6, I6⟩))
      all_goals
        have Z := Lib.hid (FB.fin (R' := R) (by first | exact I6 | exact I6.ext (ext_drew _) | exact I6.ext (ext_trans (ext_drew _) (ext_drew _))))
        clear I5 I6
        go_wp2_with fail
        go_ret
        exact ⟨rfl, _, _, _, Z.out, hi'.out⟩
    by_cases hK4 : K = 4
    · subst hK4
      obtain ⟨b, L', hi', PA, PB⟩ := two_comp h1.out hi.out n
      replace hi' := Lib.hid hi'
      replace PA := Lib.hid PA
      replace PB := Lib.hid PB
      have C0 : Hid ((W.alloc (.cells #[.int .i64 4, .int .i64 n, .string t, .string y, .int .i64 q, .bool r] 67)).cell? ⟨W.heap.size, 1, none⟩ = some (.int .i64 n)) := Lib.hid b1
      clear KB b0 b1 b2 b3 b4 b5
      have b0 := CC0
      simp only [List.getElem?_toArray, List.getElem?_cons_zero] at b0
      have b1 := C0.out
      go_enter Try.func29, Try.ntmps29
      go_wp2_with fail
      go_region_held3 (fun V => V.cell? ⟨W.heap.size, 1, none⟩ = some (.int .i64 n))
        (first | exact C0.out | exact ((ext_drew _).cell (by simp)).trans C0.out | exact CD.out _ I6 | exact CD.out _ (I6.ext (ext_drew _)) | exact CD.out _ I5 | exact CD.out _ (I5.ext (ext_drew _)))
        (first
          | (go_at_call 38; refine (PA.out _ (by first | exact Below.refl _ _ | exact ext_drew _)).mono ?_; rintro e w5 ⟨rfl, T5, I5⟩)
          | (go_at_call 51; refine (PB.out _ _ (by first | exact I5 | exact I5.ext (ext_drew _))).mono ?_; rintro e w6 ⟨rfl, v6, I6⟩))
      all_goals
        have Z := Lib.hid (FB.fin (R' := R) (by first | exact I6 | exact I6.ext (ext_drew _) | exact I6.ext (ext_trans (ext_drew _) (ext_drew _))))
        clear I5 I6
        go_wp2_with fail
        go_ret
        exact ⟨rfl, _, _, _, Z.out, hi'.out⟩
    have k2 : (K == 2) = false := by simpa using hK2
    have k3 : (K == 3) = false := by simpa using hK3
    have k4 : (K == 4) = false := by simpa using hK4
    have Z := Lib.hid (FB.fin (R' := R) h1.out)
    clear KB CD CC0 hK2 hK3 hK4
    go_enter Try.func29, Try.ntmps29
    go_wp2_with fail
    go_ret
    exact ⟨rfl, _, _, _, Z.out, hi.out⟩
end
end Go.Proofs.Ytcjoemejoeekiaa.Fli

/-
  LAYER 17: the document's Filter, Join of any list, same.
-/
import Derived.Test.YtfdaooaooalknaaSf
import Derived.Test.YtfdaooaooalknaaUj
import Derived.Test.YtfdaooaooalknaaBulk
import Derived.SliceStrings

namespace Go.Proofs.Ytfdaooaooalknaa
set_option linter.unusedSimpArgs false
set_option linter.unusedVariables false
open Go.RowKit Go.ChangeShapes Go.WideShapes

theorem rr_any : RRight := fun s w => (rright_any s w).mono fun e w' ⟨h1, n, h2⟩ => ⟨h1, by subst h2; exact below_drewN (Below.refl _ _) n⟩
set_option maxHeartbeats 2000000 in
set_option maxRecDepth 100000 in
theorem rfilter_any (s : ByteArray) (w : World) (hs : s.size ≤ 1048576) : Calls Try.prog 34 #[.string s] w (BoolIs (filterB s) w) := by
  have F := Lib.hid (sized_any rr_any s w hs)
  have SP := Lib.hid fun w' => rsplit_any s w' hs
  unfold filterB
  have hle : fitsB s = true → s.size ≤ 96 := fun h => by
    unfold fitsB at h
    simp only [Bool.and_eq_true, decide_eq_true_eq] at h
    exact h.2.1
  have hsl : ∀ x ∈ spS s, x.size ≤ s.size := fun x hx => by
    obtain ⟨p, hp, rfl⟩ := List.mem_map.1 hx
    rw [bs_size]
    have := spl_sum _ p hp
    have h2 : s.data.toList.length = s.size := Array.length_toList
    omega
  generalize hf : fitsB s = f at *
  replace hf := Lib.hid hf
  go_enter Try.func34, Try.ntmps34
  go_wp2_with fail
  refine (F.out).mono ?_
  rintro e w1 ⟨rfl, b1⟩
  cases f with
  | false =>
    go_wp2_with fail
    go_ret
    exact ⟨rfl, b1⟩
  | true =>
    have h96 := hle rfl
    have hlen := spS_le s
    have hpos := spS_pos s
    clear hle
    replace b1 := Lib.hid b1
    go_wp2_with fail
    refine (SP.out _).mono ?_
    rintro e w2 ⟨v, rfl, hown, b2⟩
    have WI := Lib.hid fun x (hx : x ∈ spS s) w' => wild_any x w' (by have := hsl x hx; omega)
    clear hsl
    generalize spS s = ss at *
    obtain ⟨g, cap, rfl, -, hg, hcap, hcell⟩ := own_cells hown (by omega)
    have B2 := Lib.hid (ext_trans b1.out b2)
    replace hcell := Lib.hid hcell
    have hlen' : (ss.length : Int) ≤ 97 := by omega
    clear hown b2 SP F
    go_wp2
    go_loopw [4] (fun i wr => ∃ k : Nat, i = .int .i64 k ∧ k ≤ ss.length ∧ (∀ j, j < k → okAt ss j = true) ∧ Below w2.heap.size w2 wr) (fun i _ => ss.length - (intOf i).toNat)
    case atStart => exact ⟨0, rfl, by omega, fun j hj => by omega, Below.refl _ _⟩
    case round =>
      obtain ⟨k, rfl, hk, hall, hb⟩ := hrel
      have B3 := Lib.hid (B2.out.trans (hb.mono B2.out.size))
      replace hall := Lib.hid hall
      replace hb := Lib.hid hb
      by_cases hend : k = ss.length
      · subst hend
        go_wp2
        go_ret
        exact ⟨by rw [filtL_yes hall.out]; rfl, B3.out⟩
      obtain ⟨x, hx⟩ : ∃ x, ss[k]? = some x := ⟨_, List.getElem?_eq_getElem (by omega)⟩
      have hcx := Lib.hid fun w' (hb : Below w2.heap.size w2 w') => (show w'.cell? ⟨g, k, none⟩ = some (.string x) by rw [hb.cell (by simpa using hg)]; exact hcell.out k x hx)
      have c0 := hcx.out _ hb.out
      have hok : okAt ss k = (decide (x = isPlus) || (decide (x = isHash) && decide (k + 1 = ss.length)) || !anyB x) := by unfold okAt; simp [List.getD, hx]
      have W1 := Lib.hid (WI.out x (List.mem_of_getElem? hx))
      have klt : (k : Int) < (ss.length : Int) := by omega
      replace hx := Lib.hid hx
      replace hok := Lib.hid hok
      go_wp2_with fail
      refine (W1.out _).mono ?_
      rintro e w3 ⟨rfl, b3⟩
      have B4 := Lib.hid (ext_trans B3.out b3)
      have hb4 := Lib.hid (hb.out.trans (b3.mono hb.out.size))
      have c1 := hcx.out _ hb4.out
      clear c0 b3
      have next : okAt ss k = true → ∀ j, j < k + 1 → okAt ss j = true := fun h1 j hj => by
        by_cases h : j = k
        · rw [h]; exact h1
        · exact hall.out j (by omega)
      replace next := Lib.hid next
      cases ha : anyB x with
      | false =>
        have hyes : okAt ss k = true := by rw [hok.out, ha]; simp
        replace ha := Lib.hid ha
        replace hyes := Lib.hid hyes
        go_wp2_with fail
        go_roundw
        case rel => exact ⟨k + 1, by simp, by omega, next.out hyes.out, hb4.out⟩
        case measure => simp [intOf]; omega
      | true =>
        by_cases hp : x = isPlus
        · have p1 : (x.toList == [43]) = true := by rw [is_plus, hp]; rfl
          have hyes : okAt ss k = true := by rw [hok.out, hp]; rfl
          replace hyes := Lib.hid hyes
          replace hp := Lib.hid hp
          replace ha := Lib.hid ha
          go_wp2_with fail
          go_roundw
          case rel => exact ⟨k + 1, by simp, by omega, next.out hyes.out, hb4.out⟩
          case measure => simp [intOf]; omega
        have p1 : (x.toList == [43]) = false := by rw [is_plus, decide_eq_false hp]
        by_cases hh : x = isHash
        · have p2 : (x.toList == [35]) = true := by rw [is_hash, hh]; rfl
          by_cases hl : k + 1 = ss.length
          · have hl2 : ¬ (k : Int) < (ss.length : Int) - 1 := by omega
            have hyes : okAt ss k = true := by rw [hok.out, decide_eq_true hh, decide_eq_true hl]; simp
            replace hyes := Lib.hid hyes
            replace hp := Lib.hid hp
            replace hh := Lib.hid hh
            replace ha := Lib.hid ha
            replace hl := Lib.hid hl
            go_wp2_with fail
            go_roundw
            case rel => exact ⟨k + 1, by simp, by have := hl.out; omega, next.out hyes.out, hb4.out⟩
            case measure => simp [intOf]; omega
          · have hl2 : (k : Int) < (ss.length : Int) - 1 := by omega
            have hno : okAt ss k = false := by rw [hok.out, ha, decide_eq_false hp, decide_eq_false hl]; simp
            replace hno := Lib.hid hno
            replace hp := Lib.hid hp
            replace hh := Lib.hid hh
            replace ha := Lib.hid ha
            replace hl := Lib.hid hl
            go_wp2_with fail
            go_ret
            exact ⟨by rw [filtL_no (by omega) hno.out]; rfl, B4.out⟩
        · have p2 : (x.toList == [35]) = false := by rw [is_hash, decide_eq_false hh]
          have hno : okAt ss k = false := by rw [hok.out, ha, decide_eq_false hp, decide_eq_false hh]; simp
          replace hno := Lib.hid hno
          replace hp := Lib.hid hp
          replace hh := Lib.hid hh
          replace ha := Lib.hid ha
          go_wp2_with fail
          go_ret
          exact ⟨by rw [filtL_no (by omega) hno.out]; rfl, B4.out⟩
theorem joi_snoc (x : List UInt8) : ∀ l : List (List UInt8), l ≠ [] → joi (l ++ [x]) = joi l ++ 47 :: x
  | [], h => absurd rfl h
  | [p], _ => by simp [joi]
  | p :: q :: r, _ => by
    have ih := joi_snoc x (q :: r) (by simp)
    rw [List.cons_append, joi_cons p (q :: r ++ [x]) (by simp), ih, joi_cons p (q :: r) (by simp), List.append_assoc]
    rfl
/-- A list joined. -/
def joinB (ss : List ByteArray) : ByteArray := bs (joi (ss.map (·.data.toList)))
def tot : List ByteArray → Nat
  | [] => 0
  | x :: r => (x.size + 1) + tot r
theorem joi_tot : ∀ ss : List ByteArray, (joi (ss.map (·.data.toList))).length ≤ tot ss
  | [] => by simp [joi]
  | [x] => by
    have : x.data.toList.length = x.size := Array.length_toList
    simp only [List.map_cons, List.map_nil, joi, tot]
    omega
  | x :: y :: r => by
    have ih := joi_tot (y :: r)
    have : x.data.toList.length = x.size := Array.length_toList
    rw [List.map_cons, joi_cons _ _ (by simp), List.length_append, List.length_cons, tot]
    omega
theorem len_tot : ∀ ss : List ByteArray, ss.length ≤ tot ss
  | [] => by simp
  | x :: r => by have := len_tot r; simp only [List.length_cons, tot]; omega
theorem tot_take : ∀ (ss : List ByteArray) (k : Nat), tot (ss.take k) ≤ tot ss
  | [], k => by simp
  | x :: r, 0 => by simp [tot]
  | x :: r, k + 1 => by have := tot_take r k; simp only [List.take_succ_cons, tot]; omega
theorem tot_mem {x : ByteArray} : ∀ {ss : List ByteArray}, x ∈ ss → x.size + 1 ≤ tot ss
  | y :: r, h => by
    rcases List.mem_cons.1 h with rfl | h
    · simp [tot]
    · have := tot_mem h; simp only [tot]; omega
theorem bulk_strs {H : Type} : ∀ ss : List ByteArray, Rows.uptoBulkAll (strs (H := H) ss) = tot ss
  | [] => rfl
  | x :: r => by
    have ih := bulk_strs (H := H) r
    unfold strs at ih ⊢
    rw [List.map_cons, Rows.uptoBulkAll, ih, tot]
    simp only [Rows.uptoBulk, Array.length_toList]
    rfl
/-- A slice of strings that came in, small in all. -/
def StrRowU (w : World) (a : Option Addr) (len cap : Nat) (ss : List ByteArray) : Prop :=
  ss.length = len ∧ len ≤ cap ∧ tot ss ≤ 1048576 ∧ (len = 0 ∨ ∃ b o, a = some ⟨b, o, none⟩ ∧ b < w.heap.size ∧ ∀ i x, ss[i]? = some x → w.cell? ⟨b, o + i, none⟩ = some (.string x))
theorem open_str_argU {H : Type} {enc : TypeId × Value → H} {P : Program} {W : World} {t e : TypeId} (ht : P.underlying t = some (.slice e)) (he : P.underlying e = some .string) (hc : P.cellsOf e = 1) {a0 : Option Addr} {len cap fuel : Nat} {x : DataW H × List MemPlace}
    (hf : DataW.trod enc P W 0 (fun _ => true) true fuel t [.slice a0 len cap] = some x) (hb : Rows.uptoBulk x.1 ≤ 1048576) : ∃ ss, StrRowU W a0 len cap ss := by
  rcases open_strings ht he hc hf with ⟨hcs, hx⟩ | ⟨a, len', cap', ss, hcs, _, hl, hm, hz, hx, hcell, hsz⟩
  · simp at hcs
    obtain ⟨rfl, rfl, rfl⟩ := hcs
    exact ⟨[], rfl, Nat.le_refl _, by simp [tot], .inl rfl⟩
  · simp at hcs
    obtain ⟨rfl, rfl, rfl⟩ := hcs
    simp only [if_true] at hz
    have ht : tot (ss.take len) ≤ 1048576 := by
      rw [hx] at hb
      simp only [Rows.uptoBulk, bulk_strs] at hb
      omega
    refine ⟨ss.take len, by simp; omega, by omega, ht, ?_⟩
    by_cases h0 : len = 0
    · exact .inl h0
    right
    obtain ⟨b, off, spot⟩ := a
    have hc0 := hcell 0 (by omega)
    have hs : spot = none := by simpa [Addr.add] using World.cell?_spot hc0
    subst hs
    refine ⟨b, off, rfl, by have := World.block_lt_of_cell? W _ hc0; simpa [Addr.add] using this, fun i y hy => ?_⟩
    have hi : i < len := by
      have := (List.getElem?_eq_some_iff.1 hy).1
      rw [List.length_take] at this
      omega
    have := hcell i (by omega)
    have hadd : (⟨b, off, none⟩ : Addr).add i = ⟨b, off + i, none⟩ := by unfold Addr.add; split <;> simp_all
    rw [hadd] at this
    rw [List.getElem?_take, if_pos hi] at hy
    rw [this, List.getD_eq_getElem?_getD, hy]
    rfl
theorem joinB_take {ss : List ByteArray} {k : Nat} {x : ByteArray} (hx : ss[k]? = some x) (hk : k ≠ 0) : (joinB (ss.take (k + 1))).data.toList = (joinB (ss.take k)).data.toList ++ 47 :: x.data.toList := by
  obtain ⟨hlt, he⟩ := List.getElem?_eq_some_iff.1 hx
  unfold joinB
  rw [bs_data, bs_data, List.take_succ_eq_append_getElem hlt, List.map_append, List.map_cons, List.map_nil, joi_snoc _ _ (by
    intro h
    have := congrArg List.length h
    rw [List.length_map, List.length_take] at this
    have h2 : min k ss.length = 0 := this
    omega), he]
theorem joinB_one {ss : List ByteArray} {x : ByteArray} (hx : ss[0]? = some x) : joinB (ss.take 1) = x := by
  cases ss with
  | nil => cases hx
  | cons a r =>
    simp only [List.getElem?_cons_zero, Option.some.injEq] at hx
    subst hx
    show bs a.data.toList = a
    exact bs_of a
theorem joinB_size {ss : List ByteArray} (h : tot ss ≤ 1048576) (k : Nat) : (joinB (ss.take k)).size ≤ 1048576 := by
  unfold joinB
  rw [bs_size]
  exact Nat.le_trans (joi_tot _) (Nat.le_trans (tot_take ss k) h)
def StrIs (s : ByteArray) (w : World) (e : Ending) (w' : World) : Prop := e = .returned (.string s) ∧ Below w.heap.size w w'
def SameOk (w : World) (a : Option Addr) (ss : List ByteArray) : Prop := ∃ g, a = some ⟨g, 0, none⟩ ∧ g < w.heap.size ∧ ∀ i x, ss[i]? = some x → w.cell? ⟨g, i, none⟩ = some (.string x)
end Go.Proofs.Ytfdaooaooalknaa

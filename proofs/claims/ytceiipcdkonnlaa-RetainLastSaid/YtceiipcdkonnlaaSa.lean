/-
  LAYER 17: the program's Split.
-/
import Derived.Test.YtceiipcdkonnlaaLp
import Derived.Test.YtceiipcdkonnlaaUc
import Derived.WalkMore
import Derived.ScopeJumps
import Derived.WalkSpells
import Derived.Laws.OwnMore
import Derived.Deep.DeepMust
namespace Go.Proofs.Ytceiipcdkonnlaa
set_option linter.unusedSimpArgs false
set_option linter.unusedVariables false
open Go.RowKit

theorem Try.info9 : (Try.prog.info? 9).map (fun i => (i.zero, i.size, i.bytes)) = some (some (.string ⟨#[]⟩), 1, 16) := by kernel_rfl
theorem info_parts {P : Program} {t : TypeId} {z : Value} {n b : Nat} (h : (P.info? t).map (fun i => (i.zero, i.size, i.bytes)) = some (some z, n, b)) : ∃ i, P.info? t = some i ∧ i.zero = some z ∧ i.size = n ∧ i.bytes = b := by
  cases hi : P.info? t with
  | none => rw [hi] at h; cases h
  | some i =>
    rw [hi] at h
    simp only [Option.map_some, Option.some.injEq, Prod.mk.injEq] at h
    exact ⟨i, rfl, h.1, h.2.1, h.2.2⟩
theorem own_slice {w : World} {B e size n : Nat} {v : Value} {xs : List Value} (h : w.ownsRow B e size v n xs) : ∃ a c, v = .slice a n c := by
  rcases h.2 with ⟨rfl, rfl⟩ | ⟨g, cap, cur, rfl, _⟩
  · exact ⟨none, 0, rfl⟩
  · exact ⟨_, _, rfl⟩
theorem own_below {w w' : World} {B e size n : Nat} {v : Value} {xs : List Value} (h : w.ownsRow B e size v n xs) (hb : Below w.heap.size w w') : w'.ownsRow B e size v n xs := by
  obtain ⟨h1, hr⟩ := h
  refine ⟨h1, hr.imp id ?_⟩
  rintro ⟨g, cap, cur, hv, hg, hcur, rest⟩
  exact ⟨g, cap, cur, hv, hg, by rw [hb.block g (Array.getElem?_eq_some_iff.1 hcur).1]; exact hcur, rest⟩
def bs (l : List UInt8) : ByteArray := ⟨l.toArray⟩
theorem bs_data (l : List UInt8) : (bs l).data.toList = l := rfl
theorem bs_of (s : ByteArray) : bs s.data.toList = s := by cases s; simp [bs]
theorem bs_size (l : List UInt8) : (bs l).size = l.length := by simp [bs, ByteArray.size]
theorem cut_front (s : ByteArray) (p : Nat) : s.extract 0 p = bs (s.data.toList.take p) := by
  rw [Lib.extract_eq]
  simp [bs]
theorem cut_back (s : ByteArray) (p : Nat) : s.extract p s.size = bs (s.data.toList.drop p) := by
  rw [Lib.extract_eq]
  have : s.size = s.data.toList.length := by rw [Array.length_toList]; rfl
  rw [List.take_of_length_le (by rw [List.length_drop]; omega)]
  rfl
theorem gB_get (s : ByteArray) (k : Nat) (hk : k < s.size) : ∃ c, s.data.toList[k]? = some c ∧ c.toNat = gB s k := by
  have h : k < s.data.size := hk
  refine ⟨s.data[k], by simp, ?_⟩
  unfold gB ByteArray.get!
  show _ = (s.data[k]!).toNat
  rw [getElem!_pos s.data k h]
/-- The levels of a text. -/
def spS (s : ByteArray) : List ByteArray := (spl s.data.toList).map bs
theorem sp_at (S : ByteArray) (pos : Nat) (hp : pos < S.size) (hc : gB S pos = 47) (hno : ∀ i, i < pos → gB S i ≠ 47) : spS S = S.extract 0 pos :: spS (S.extract (pos + 1) S.size) := by
  obtain ⟨c, h1, h2⟩ := gB_get S pos hp
  have hc' : c = 47 := by apply UInt8.toNat_inj.1; rw [h2, hc]; rfl
  subst hc'
  have e : S.data.toList = S.data.toList.take pos ++ 47 :: S.data.toList.drop (pos + 1) := by
    obtain ⟨hlt, he⟩ := List.getElem?_eq_some_iff.1 h1
    conv => lhs; rw [← List.take_append_drop pos S.data.toList]
    rw [List.drop_eq_getElem_cons hlt, he]
  have hn : ∀ c ∈ S.data.toList.take pos, c ≠ 47 := by
    intro c hc0 hcc
    obtain ⟨i, hi, he⟩ := List.mem_iff_getElem.1 hc0
    have hi' : i < pos := by rw [List.length_take] at hi; omega
    obtain ⟨c', h1', h2'⟩ := gB_get S i (by omega)
    rw [List.getElem_take] at he
    have : S.data.toList[i]? = some c := by rw [← he]; exact List.getElem?_eq_getElem _
    rw [h1'] at this
    simp only [Option.some.injEq] at this
    subst this
    apply hno i hi'
    rw [← h2', hcc]; rfl
  unfold spS
  rw [cut_back, bs_data]
  conv => lhs; rw [e, spl_at _ _ hn]
  rw [List.map_cons, cut_front]
theorem sp_end (S : ByteArray) (hno : ∀ i, i < S.size → gB S i ≠ 47) : spS S = [S] := by
  have hn : ∀ c ∈ S.data.toList, c ≠ 47 := by
    intro c hc0 hcc
    obtain ⟨i, hi, he⟩ := List.mem_iff_getElem.1 hc0
    have hi' : i < S.size := by rw [Array.length_toList] at hi; exact hi
    obtain ⟨c', h1', h2'⟩ := gB_get S i hi'
    have : S.data.toList[i]? = some c := by rw [← he]; exact List.getElem?_eq_getElem _
    rw [h1'] at this
    simp only [Option.some.injEq] at this
    subst this
    apply hno i hi'
    rw [← h2', hcc]; rfl
  unfold spS
  rw [spl_none _ hn, List.map_cons, List.map_nil, bs_of]
def sl (ss : List ByteArray) : List Value := ss.map .string
def strSz : Value → Nat | .string s => s.size | _ => 0
/-- What is left at the label. -/
def SJ (s : ByteArray) (w0 : World) (a : Act) (w : World) : Prop :=
  ∃ (S : ByteArray) (done : List ByteArray) (v : Value) (u4 u5 u6 u7 u8 u9 u10 u11 u12 u13 u14 u15 u16 u17 u18 u19 u20 u21 u22 u23 u24 u25 u26 u27 : Value), a = { tmps := #[.string S, undef, .slice none 0 0, v, u4, u5, u6, u7, u8, u9, u10, u11, u12, u13, u14, u15, u16, u17, u18, u19, u20, u21, u22, u23, u24, u25, u26, u27], defers := [] } ∧
    spS s = done ++ spS S ∧ w.ownsRow w0.heap.size 9 1 v done.length (sl done) ∧ Below w0.heap.size w0 w ∧ done.length + S.size ≤ s.size
def SplitIs (s : ByteArray) (w : World) (e : Ending) (w' : World) : Prop := ∃ v, e = .returned v ∧ w'.ownsRow w.heap.size 9 1 v (spS s).length (sl (spS s)) ∧ Below w.heap.size w w'
end Go.Proofs.Ytceiipcdkonnlaa

/-
  LAYER 28: all places with their sessions, as one fact.
-/
import Derived.Test.YtdcfenkllpfbaaaBk
namespace Go.Proofs.Ytdcfenkllpfbaaa.Sns
set_option linter.unusedVariables false
set_option linter.unusedSimpArgs false
open Go.Proofs.Ytdcfenkllpfbaaa
open Go.RowKit Que
/-- A place's session. -/
structure Ze where
  s : Nat
  p : Nat
  g : Nat
  c : Nat
  cl : ByteArray
  cn : Bool
  l : List Mg
  lost : Int
structure Ze.At (w : World) (n : Int) (z : Ze) : Prop where
  sn : Sn w z.s z.p z.g z.cl z.cn
  qu : Quu.Qu w z.g z.c 16 z.l z.lost
  len : z.l.length ≤ 16
  lost0 : 0 ≤ z.lost
  lostn : z.lost ≤ n
def spS (L : List (Option Ze)) : List (Option Nat) := L.map (Option.map Ze.s)
theorem spS_get (L : List (Option Ze)) (i : Nat) : (spS L)[i]? = L[i]?.map (Option.map Ze.s) := List.getElem?_map ..
theorem spS_set (L : List (Option Ze)) (i : Nat) (x : Option Ze) : spS (L.set i x) = (spS L).set i (x.map Ze.s) := by simp [spS, List.map_set]
structure St (w : World) (t : Nat) (n : Int) (L : List (Option Ze)) : Prop where
  sp : Sp w t (spS L)
  at_ : ∀ (i : Nat) (z : Ze), L[i]? = some (some z) → z.At w n
  two : ∀ (i j : Nat) (x y : Ze), L[i]? = some (some x) → L[j]? = some (some y) → i ≠ j → x.g ≠ y.g ∧ x.c ≠ y.c ∧ x.cl ≠ y.cl
variable {w w' : World} {t : Nat} {n : Int} {L : List (Option Ze)}
theorem St.len (h : St w t n L) : L.length = 8 := by have := h.sp.len; simpa [spS] using this
theorem Ze.At.ext {z : Ze} (h : z.At w n) (hb : Below w.heap.size w w') : z.At w' n := ⟨h.sn.ext hb, h.qu.keep hb, h.len, h.lost0, h.lostn⟩
theorem Ze.At.more {z : Ze} {m : Int} (h : z.At w n) (hm : n ≤ m) : z.At w m := ⟨h.sn, h.qu, h.len, h.lost0, by have := h.lostn; omega⟩
theorem St.ext (h : St w t n L) (hb : Below w.heap.size w w') : St w' t n L := ⟨h.sp.ext hb, fun i z hi => (h.at_ i z hi).ext hb, h.two⟩
theorem St.more {m : Int} (h : St w t n L) (hm : n ≤ m) : St w t m L := ⟨h.sp, fun i z hi => (h.at_ i z hi).more hm, h.two⟩
/-- The blocks of a session. -/
theorem Ze.At.net {z : Ze} (h : z.At w n) {P : List (Option Nat)} (hs : Sp w t P) : z.s ≠ t ∧ z.p ≠ t ∧ z.g ≠ t ∧ z.c ≠ t := by
  obtain ⟨f, i, hp⟩ := h.sn.prow
  obtain ⟨s0, r0, hc⟩ := h.qu.ch
  exact ⟨ne_ty h.sn.row hs.row (by decide), ne_ty hp hs.row (by decide), ne_ty h.qu.row hs.row (by decide), (ne_ch hs.row hc (by intros; simp)).symm⟩
theorem Ze.At.far {S : Nat → Prop} {z : Ze} (h : z.At w n) (F : Far S w w') (h1 : ¬ S z.s) (h2 : ¬ S z.p) (h3 : ¬ S z.g) (h4 : ¬ S z.c) : z.At w' n :=
  ⟨h.sn.far F h1 h2, Qu.far h.qu F h3 h4, h.len, h.lost0, h.lostn⟩
theorem Ze.At.lts {z : Ze} (h : z.At w n) : z.g < w.heap.size ∧ z.c < w.heap.size := ⟨h.qu.lt, h.qu.clt⟩
/-- A name by its block. -/
def nmW (w : World) (s : Nat) : ByteArray :=
  match w.heap[s]? with
  | some (Obj.cells a _ _) => (match (a[0]? : Option Value) with | some (Value.string c) => c | _ => ⟨#[]⟩)
  | _ => ⟨#[]⟩
theorem nmW_sn {s p g : Nat} {cl : ByteArray} {cn : Bool} (h : Sn w s p g cl cn) : nmW w s = cl := by simp [nmW, h.row]
theorem tkS_mem : ∀ (L : List (Option Ze)) (n : Nat) (x : Nat × Nat), x ∈ tkS (spS L) n → ∃ i z, L[i]? = some (some z) ∧ z.s = x.2 ∧ x.1 = n + i
  | [], n, x, h => by simp [spS, tkS] at h
  | none :: L, n, x, h => by
    obtain ⟨i, z, h1, h2, h3⟩ := tkS_mem L (n + 1) x (by simpa [spS, tkS] using h)
    exact ⟨i + 1, z, by simpa using h1, h2, by omega⟩
  | some z :: L, n, x, h => by
    have h' : x = (n, z.s) ∨ x ∈ tkS (spS L) (n + 1) := by simpa [spS, tkS] using h
    rcases h' with rfl | h'
    · exact ⟨0, z, rfl, rfl, rfl⟩
    · obtain ⟨i, z, h1, h2, h3⟩ := tkS_mem L (n + 1) x h'
      exact ⟨i + 1, z, by simpa using h1, h2, by omega⟩
theorem St.names (h : St w t n L) : ∀ x ∈ tkS (spS L) 0, ∃ p g cn, Sn w x.2 p g (nmW w x.2) cn := fun x hx => by
  obtain ⟨i, z, h1, h2, h3⟩ := tkS_mem L 0 x hx
  have hz := (h.at_ i z h1).sn
  rw [h2] at hz
  exact ⟨z.p, z.g, z.cn, by rw [nmW_sn hz]; exact hz⟩
/-- The first of that name, with its place. -/
def fndS (cl : ByteArray) : List (Option Ze) → Nat → Option (Nat × Ze)
  | [], _ => none
  | none :: L, n => fndS cl L (n + 1)
  | some z :: L, n => if z.cl = cl then some (n, z) else fndS cl L (n + 1)
def fndV : Option (Nat × Ze) → Int × Bool
  | none => (0, false)
  | some x => ((x.1 : Int), true)
theorem fnd_S {nm : Nat → ByteArray} {cl : ByteArray} : ∀ (L : List (Option Ze)) (n : Nat), (∀ (i : Nat) (z : Ze), L[i]? = some (some z) → nm z.s = z.cl) → fnd nm cl (tkS (spS L) n) = fndV (fndS cl L n)
  | [], n, h => rfl
  | none :: L, n, h => fnd_S L (n + 1) (fun i z hi => h (i + 1) z (by simpa using hi))
  | some z :: L, n, h => by
    have ih := fnd_S (nm := nm) (cl := cl) L (n + 1) (fun i z hi => h (i + 1) z (by simpa using hi))
    have h0 := h 0 z rfl
    show fnd nm cl ((n, z.s) :: tkS (spS L) (n + 1)) = _
    rw [fnd, fndS]
    simp only [h0]
    split
    · rfl
    · exact ih
theorem fndS_some {cl : ByteArray} {x : Nat × Ze} : ∀ {L : List (Option Ze)} {n : Nat}, fndS cl L n = some x → n ≤ x.1 ∧ L[x.1 - n]? = some (some x.2) ∧ x.2.cl = cl
  | [], n, h => by simp [fndS] at h
  | none :: L, n, h => by
    obtain ⟨h1, h2, h3⟩ := fndS_some (L := L) (n := n + 1) (by simpa [fndS] using h)
    exact ⟨by omega, by rw [show x.1 - n = (x.1 - (n + 1)) + 1 by omega]; simpa using h2, h3⟩
  | some z :: L, n, h => by
    rw [fndS] at h
    split at h
    · simp at h; subst h; exact ⟨Nat.le_refl _, by simp, by assumption⟩
    · obtain ⟨h1, h2, h3⟩ := fndS_some (L := L) (n := n + 1) h
      exact ⟨by omega, by rw [show x.1 - n = (x.1 - (n + 1)) + 1 by omega]; simpa using h2, h3⟩
theorem fndS_none {cl : ByteArray} : ∀ {L : List (Option Ze)} {n : Nat}, fndS cl L n = none → ∀ (i : Nat) (z : Ze), L[i]? = some (some z) → z.cl ≠ cl
  | [], n, h, i, z, hi => by simp at hi
  | none :: L, n, h, 0, z, hi => by simp at hi
  | none :: L, n, h, i + 1, z, hi => fndS_none (L := L) (n := n + 1) (by simpa [fndS] using h) i z (by simpa using hi)
  | some y :: L, n, h, 0, z, hi => by
    rw [fndS] at h
    split at h
    · simp at h
    · simp at hi; subst hi; assumption
  | some y :: L, n, h, i + 1, z, hi => by
    rw [fndS] at h
    split at h
    · simp at h
    · exact fndS_none (L := L) (n := n + 1) h i z (by simpa using hi)
theorem fr_some : ∀ {P : List (Option Nat)} {n i : Nat}, fr P n = some i → n ≤ i ∧ P[i - n]? = some none
  | [], n, i, h => by simp [fr] at h
  | none :: P, n, i, h => by simp [fr] at h; subst h; simp
  | some s :: P, n, i, h => by
    obtain ⟨h1, h2⟩ := fr_some (P := P) (n := n + 1) (i := i) (by simpa [fr] using h)
    exact ⟨by omega, by rw [show i - n = (i - (n + 1)) + 1 by omega]; simpa using h2⟩
/-- By its name each is found where it is. -/
theorem St.found (h : St w t n L) {i : Nat} {z : Ze} (hi : L[i]? = some (some z)) : fndS z.cl L 0 = some (i, z) := by
  cases hf : fndS z.cl L 0 with
  | none => exact absurd rfl (fndS_none hf i z hi)
  | some x =>
    obtain ⟨-, h2, h3⟩ := fndS_some hf
    rw [Nat.sub_zero] at h2
    have e : x.1 = i := Classical.byContradiction fun ne => (h.two x.1 i x.2 z h2 hi ne).2.2 h3
    obtain ⟨x1, x2⟩ := x
    simp only at e h2
    subst e
    rw [hi] at h2
    simp at h2
    rw [h2]
theorem St.fnd_eq (h : St w t n L) (cl : ByteArray) : fnd (nmW w) cl (tkS (spS L) 0) = fndV (fndS cl L 0) := fnd_S L 0 (fun i z hi => nmW_sn (h.at_ i z hi).sn)
theorem st_find (h : St w t n L) (cl : ByteArray) : Calls Try.prog 8 #[.pointer (some ⟨t, 0, none⟩), .string cl] w fun e w' => e = .returned (.tuple #[.int .i64 (fndV (fndS cl L 0)).1, .bool (fndV (fndS cl L 0)).2]) ∧ Below w.heap.size w w' :=
  (find_any t _ cl w h.sp (nmW w) h.names).mono (fun e w' he => by rw [← h.fnd_eq]; exact he)
/-- The session of a place. -/
def plS (L : List (Option Ze)) (i : Int) : Option Ze := if 0 ≤ i then L.getD i.toNat none else none
def ptrZ (z : Option Ze) : Option Addr := z.map fun z => ⟨z.s, 0, none⟩
theorem plS_in {i : Nat} {x : Option Ze} (h : L[i]? = some x) : plS L (i : Int) = x := by simp [plS, h]
theorem st_at (h : St w t n L) (i : Int) : Calls Try.prog 9 #[.pointer (some ⟨t, 0, none⟩), .int .i64 i] w fun e w' => e = .returned (.pointer (ptrZ (plS L i))) ∧ w = w' := by
  have hl := h.len
  by_cases h0 : 0 ≤ i
  · obtain ⟨j, rfl⟩ := Int.eq_ofNat_of_zero_le h0
    by_cases h8 : j < 8
    · have hj : L[j]? = some (L[j]'(by omega)) := List.getElem?_eq_getElem (by omega)
      have := at_in h.sp (i := j) (x := (L[j]'(by omega)).map Ze.s) (by rw [spS_get, hj]; rfl)
      rw [plS_in hj]
      refine this.mono (fun e w' he => ⟨?_, he.2⟩)
      rw [he.1]
      cases L[j]'(by omega) <;> rfl
    · have e : plS L (j : Int) = none := by
        rw [plS, if_pos (by omega), List.getD_eq_getElem?_getD, List.getElem?_eq_none (by simp; omega)]
        rfl
      rw [e]
      exact at_off h.sp _ (.inr (by omega))
  · rw [plS, if_neg h0]
    exact at_off h.sp _ (.inl (by omega))
def okId (cl : ByteArray) : Prop := cl.size ≤ 32 ∧ cl.toList.isEmpty = false ∧ rightB cl = true
instance (cl : ByteArray) : Decidable (okId cl) := by unfold okId; exact inferInstance
theorem notOk {cl : ByteArray} (h : ¬ okId cl) : cl.size = 0 ∨ 32 < cl.size ∨ rightB cl = false := by
  by_cases h1 : cl.size = 0
  · exact .inl h1
  by_cases h2 : 32 < cl.size
  · exact .inr (.inl h2)
  cases h3 : rightB cl
  · exact .inr (.inr rfl)
  · refine absurd ⟨by omega, ?_, h3⟩ h
    rw [ByteArray.toList_eq]
    obtain ⟨⟨l⟩⟩ := cl
    cases l with
    | nil => simp [ByteArray.size] at h1
    | cons a l => rfl
/-- What Open answers, and where a new session begins. -/
def opnR (cl : ByteArray) (cn : Bool) (L : List (Option Ze)) : Int × Bool × Int × Option Nat :=
  if okId cl then
    match fndS cl L 0 with
    | some (i, z) => if cn || z.cn then ((i : Int), false, 0, some i) else ((i : Int), true, 0, none)
    | none => match fr (spS L) 0 with
      | some i => ((i : Int), false, 0, some i)
      | none => (0, false, 6, none)
  else (0, false, 1, none)
/-- What Open leaves. -/
def OpnL (w : World) (cl : ByteArray) (cn : Bool) (L : List (Option Ze)) : Option Nat → List (Option Ze) → Prop
  | none, L' => L' = L
  | some i, L' => i < 8 ∧ ∃ s p g c, w.heap.size ≤ s ∧ w.heap.size ≤ p ∧ w.heap.size ≤ g ∧ w.heap.size ≤ c ∧ L' = L.set i (some ⟨s, p, g, c, cl, cn, [], 0⟩)
def OpenIs (w : World) (t : Nat) (n : Int) (L : List (Option Ze)) (cl : ByteArray) (cn : Bool) (e : Ending) (w' : World) : Prop :=
  e = .returned (.tuple #[.int .i64 (opnR cl cn L).1, .bool (opnR cl cn L).2.1, .int .i64 (opnR cl cn L).2.2.1]) ∧ Far (fun k => k = t) w w' ∧ ∃ L', St w' t n L' ∧ OpnL w cl cn L (opnR cl cn L).2.2.2 L'
theorem St.put (h : St w t n L) (hn : 0 ≤ n) {i : Nat} {cl : ByteArray} {cn : Bool} (hw : NewAt w t (spS L) cl cn i w') (h8 : i < 8) (hd : ∀ (j : Nat) (y : Ze), j ≠ i → L[j]? = some (some y) → y.cl ≠ cl) :
    Far (fun k => k = t) w w' ∧ ∃ L', St w' t n L' ∧ OpnL w cl cn L (some i) L' := by
  obtain ⟨s, p, g, c, h1, h2, h3, F, z1, z2, z3, z4⟩ := hw
  refine ⟨F, L.set i (some ⟨s, p, g, c, cl, cn, [], 0⟩), ⟨?_, ?_, ?_⟩, h8, s, p, g, c, z1, z2, z3, z4, rfl⟩
  · rw [spS_set]; exact h1
  · intro j z hj
    by_cases hji : j = i
    · subst hji
      rw [List.getElem?_set_self (by rw [h.len]; exact h8)] at hj
      simp at hj
      subst hj
      exact ⟨h2, h3, by simp, by simp, hn⟩
    · rw [List.getElem?_set_ne (by omega)] at hj
      have hz := h.at_ j z hj
      obtain ⟨e1, e2, e3, e4⟩ := hz.net h.sp
      exact hz.far F e1 e2 e3 e4
  · intro j k x y hj hk hjk
    by_cases hji : j = i
    · subst hji
      rw [List.getElem?_set_self (by rw [h.len]; exact h8)] at hj
      rw [List.getElem?_set_ne (by omega)] at hk
      simp at hj
      subst hj
      have := (h.at_ k y hk).lts
      exact ⟨by simp only; omega, by simp only; omega, (hd k y (by omega) hk).symm⟩
    · rw [List.getElem?_set_ne (by omega)] at hj
      by_cases hki : k = i
      · subst hki
        rw [List.getElem?_set_self (by rw [h.len]; exact h8)] at hk
        simp at hk
        subst hk
        have := (h.at_ j x hj).lts
        exact ⟨by simp only; omega, by simp only; omega, hd j x (by omega) hj⟩
      · rw [List.getElem?_set_ne (by omega)] at hk
        exact h.two j k x y hj hk hjk
theorem st_open (h : St w t n L) (hn : 0 ≤ n) (cl : ByteArray) (cn : Bool) (hz : cl.size ≤ 140737488351232) : Calls Try.prog 7 #[.pointer (some ⟨t, 0, none⟩), .string cl, .bool cn] w (OpenIs w t n L cl cn) := by
  have hf := h.fnd_eq cl
  by_cases hok : okId cl
  · obtain ⟨o1, o2, o3⟩ := id hok
    cases hfs : fndS cl L 0 with
    | some x =>
      obtain ⟨i, z⟩ := x
      obtain ⟨-, hi, hcl⟩ := fndS_some hfs
      simp only [Nat.sub_zero] at hi hcl
      subst hcl
      have hzA := h.at_ i z hi
      have h8 : i < 8 := by have := (List.getElem?_eq_some_iff.1 hi).1; have := h.len; omega
      rw [hfs] at hf
      have hip : (spS L)[i]? = some (some z.s) := by rw [spS_get, hi]; rfl
      by_cases hc : (cn || z.cn) = true
      · have hr : opnR z.cl cn L = ((i : Int), false, 0, some i) := by simp only [opnR, if_pos hok, hfs]; rw [if_pos hc]
        refine (open_anew h.sp z.cl cn (nmW w) h.names o1 o2 o3 hf hip hzA.sn (by simpa using hc) h8).mono ?_
        rintro e w' ⟨rfl, hw⟩
        unfold OpenIs
        rw [hr]
        exact ⟨rfl, h.put hn hw h8 (fun j y hj hy => (h.two j i y z hy hi hj).2.2)⟩
      · have hcn : cn = false := by cases cn <;> simp at hc ⊢
        have hzc : z.cn = false := by cases hh : z.cn <;> simp [hh] at hc ⊢
        subst hcn
        have hr : opnR z.cl false L = ((i : Int), true, 0, none) := by simp only [opnR, if_pos hok, hfs]; rw [if_neg hc]
        refine (open_on h.sp z.cl (nmW w) h.names o1 o2 o3 hf hip (by rw [← hzc]; exact hzA.sn)).mono ?_
        rintro e w' ⟨rfl, hb⟩
        unfold OpenIs
        rw [hr]
        exact ⟨rfl, Far.of_ext hb, L, h.ext hb, rfl⟩
    | none =>
      rw [hfs] at hf
      cases hfr : fr (spS L) 0 with
      | some i =>
        obtain ⟨-, hi⟩ := fr_some hfr
        simp only [Nat.sub_zero] at hi
        have h8 : i < 8 := by have := (List.getElem?_eq_some_iff.1 hi).1; have := h.sp.len; omega
        have hr : opnR cl cn L = ((i : Int), false, 0, some i) := by simp only [opnR, if_pos hok, hfs, hfr]
        refine (open_free h.sp cl cn (nmW w) h.names o1 o2 o3 hf hfr h8).mono ?_
        rintro e w' ⟨rfl, hw⟩
        unfold OpenIs
        rw [hr]
        exact ⟨rfl, h.put hn hw h8 (fun j y hj hy => fndS_none hfs j y hy)⟩
      | none =>
        have hr : opnR cl cn L = (0, false, 6, none) := by simp only [opnR, if_pos hok, hfs, hfr]
        refine (open_full h.sp cl cn (nmW w) h.names o1 o2 o3 hf hfr).mono ?_
        rintro e w' ⟨rfl, hb⟩
        unfold OpenIs
        rw [hr]
        exact ⟨rfl, Far.of_ext hb, L, h.ext hb, rfl⟩
  · have hr : opnR cl cn L = (0, false, 1, none) := by simp only [opnR, if_neg hok]
    refine (open_bad h.sp cl cn (notOk hok) hz).mono ?_
    rintro e w' ⟨rfl, hb⟩
    unfold OpenIs
    rw [hr]
    exact ⟨rfl, Far.of_ext hb, L, h.ext hb, rfl⟩
theorem st_new (w : World) : Calls Try.prog 14 #[] w fun e w' => e = .returned (.pointer (some ⟨w.heap.size, 0, none⟩)) ∧ St w' w.heap.size 0 (List.replicate 8 none) ∧ Below w.heap.size w w' := by
  refine (ss_new w).mono ?_
  rintro e w' ⟨rfl, h, rfl⟩
  refine ⟨rfl, ⟨h, ?_, ?_⟩, ext_alloc _ _⟩
  · intro i z hi
    rw [List.getElem?_replicate] at hi
    split at hi <;> simp at hi
  · intro i j x y hi
    rw [List.getElem?_replicate] at hi
    split at hi <;> simp at hi
/-- Drop. -/
def drL (i : Int) (L : List (Option Ze)) : List (Option Ze) := if 0 ≤ i then L.set i.toNat none else L
theorem St.away (h : St w t n L) {i : Nat} (h1 : Sp w' t ((spS L).set i none)) (F : Far (fun k => k = t) w w') : St w' t n (L.set i none) := by
  have old : ∀ j z, (L.set i none)[j]? = some (some z) → j ≠ i ∧ L[j]? = some (some z) := fun j z hj => by
    by_cases hji : j = i
    · subst hji
      rw [List.getElem?_set] at hj
      simp at hj
    · rw [List.getElem?_set_ne (by omega)] at hj
      exact ⟨hji, hj⟩
  refine ⟨by rw [spS_set]; exact h1, ?_, ?_⟩
  · intro j z hj
    have hz := h.at_ j z (old j z hj).2
    obtain ⟨e1, e2, e3, e4⟩ := hz.net h.sp
    exact hz.far F e1 e2 e3 e4
  · intro j k x y hj hk hjk
    exact h.two j k x y (old j x hj).2 (old k y hk).2 hjk
theorem set_same {α : Type} {L : List α} {i : Nat} {x : α} (h : L[i]? = some x) : L.set i x = L := by
  apply List.ext_getElem?
  intro j
  rw [List.getElem?_set]
  split
  · subst_vars
    rw [h]
    split
    · rfl
    · have := (List.getElem?_eq_some_iff.1 h).1; omega
  · rfl
theorem st_drop (h : St w t n L) (i : Int) : Calls Try.prog 10 #[.pointer (some ⟨t, 0, none⟩), .int .i64 i] w fun e w' => e = .returned (.bool (plS L i).isSome) ∧ St w' t n (drL i L) ∧ Far (fun k => k = t) w w' := by
  have hl := h.len
  by_cases h0 : 0 ≤ i
  · obtain ⟨j, rfl⟩ := Int.eq_ofNat_of_zero_le h0
    have ed : drL (j : Int) L = L.set j none := by simp [drL]
    rw [ed]
    by_cases h8 : j < 8
    · have hj : L[j]? = some (L[j]'(by omega)) := List.getElem?_eq_getElem (by omega)
      rw [plS_in hj]
      cases hx : L[j]'(by omega) with
      | none =>
        rw [hx] at hj
        refine (drop_none h.sp _ (.inr (.inr ⟨j, rfl, by rw [spS_get, hj]; rfl⟩))).mono ?_
        rintro e w' ⟨rfl, rfl⟩
        rw [set_same hj]
        exact ⟨rfl, h, Far.of_ext (Below.refl _ _)⟩
      | some z =>
        rw [hx] at hj
        refine (drop_there h.sp (i := j) (s := z.s) (by rw [spS_get, hj]; rfl)).mono ?_
        rintro e w' ⟨rfl, h1, F⟩
        exact ⟨rfl, h.away h1 F, F⟩
    · have e : plS L (j : Int) = none := by
        rw [plS, if_pos (by omega), List.getD_eq_getElem?_getD, List.getElem?_eq_none (by simp; omega)]
        rfl
      rw [e]
      refine (drop_none h.sp _ (.inr (.inl (by omega)))).mono ?_
      rintro e w' ⟨rfl, rfl⟩
      rw [List.set_eq_of_length_le (by omega)]
      exact ⟨rfl, h, Far.of_ext (Below.refl _ _)⟩
  · rw [plS, if_neg h0, drL, if_neg h0]
    refine (drop_none h.sp _ (.inl (by omega))).mono ?_
    rintro e w' ⟨rfl, rfl⟩
    exact ⟨rfl, h, Far.of_ext (Below.refl _ _)⟩
/-- A session after one more message. -/
def dl (z : Ze) (m : Mg) : Ze := { z with l := if z.l.length < 16 then z.l ++ [m] else z.l, lost := if z.l.length < 16 then z.lost else z.lost + 1 }
/-- One session is told by the same blocks. -/
theorem St.one {m : Int} (h : St w t n L) (hm : n ≤ m) {i : Nat} {z z' : Ze} (hi : L[i]? = some (some z)) (hz : z'.At w' m) (F : Far (fun k => k = z.g ∨ k = z.c) w w') (es : z'.s = z.s) (eg : z'.g = z.g) (ec : z'.c = z.c) (el : z'.cl = z.cl) : St w' t m (L.set i (some z')) := by
  have hzA := h.at_ i z hi
  have h8 := (List.getElem?_eq_some_iff.1 hi).1
  obtain ⟨f, ii, hp⟩ := hzA.sn.prow
  obtain ⟨s0, r0, hc⟩ := hzA.qu.ch
  have old : ∀ j y, (L.set i (some z'))[j]? = some (some y) → ∃ y0, L[j]? = some (some y0) ∧ y.g = y0.g ∧ y.c = y0.c ∧ y.cl = y0.cl ∧ (j ≠ i → y = y0) ∧ (j = i → y = z') := fun j y hj => by
    by_cases hji : j = i
    · subst hji
      rw [List.getElem?_set_self h8] at hj
      simp at hj
      subst hj
      exact ⟨z, hi, eg, ec, el, fun h => absurd rfl h, fun _ => rfl⟩
    · rw [List.getElem?_set_ne (by omega)] at hj
      exact ⟨y, hj, rfl, rfl, rfl, fun _ => rfl, fun h => absurd h hji⟩
  refine ⟨?_, ?_, ?_⟩
  · rw [spS_set, Option.map_some, es, set_same (by rw [spS_get, hi]; rfl)]
    obtain ⟨e1, e2, e3, e4⟩ := hzA.net h.sp
    exact ⟨(F.block t h.sp.lt (by omega)).trans h.sp.row, h.sp.len⟩
  · intro j y hj
    obtain ⟨y0, hj0, -, -, -, hne, heq⟩ := old j y hj
    by_cases hji : j = i
    · rw [heq hji]; exact hz
    · have := hne hji
      subst this
      have hy := h.at_ j y hj0
      obtain ⟨n1, n2, -⟩ := h.two j i y z hj0 hi hji
      obtain ⟨f, ii, hp⟩ := hy.sn.prow
      obtain ⟨s1, r1, hc1⟩ := hy.qu.ch
      refine (hy.far F ?_ ?_ ?_ ?_).more hm
      · exact fun e => e.elim (ne_ty hy.sn.row hzA.qu.row (by decide)) (ne_ch hy.sn.row hc (by intros; simp))
      · exact fun e => e.elim (ne_ty hp hzA.qu.row (by decide)) (ne_ch hp hc (by intros; simp))
      · exact fun e => e.elim n1 (ne_ch hy.qu.row hc (by intros; simp))
      · exact fun e => e.elim (fun e => ne_ch hzA.qu.row hc1 (by intros; simp) e.symm) n2
  · intro j k x y hj hk hjk
    obtain ⟨x0, hj0, a1, a2, a3, -⟩ := old j x hj
    obtain ⟨y0, hk0, b1, b2, b3, -⟩ := old k y hk
    rw [a1, a2, a3, b1, b2, b3]
    exact h.two j k x0 y0 hj0 hk0 hjk
theorem st_deliver (h : St w t n L) (hn : n ≤ 1000) {i : Nat} {z : Ze} (hi : L[i]? = some (some z)) (tp x : ByteArray) (r : Bool) :
    Calls Try.prog 15 #[.pointer (some ⟨z.s, 0, none⟩), .agg #[.string tp, .string x, .int .i64 1, .bool r], .int .i64 1] w fun e w' => (∃ v, e = .returned (.tuple #[.slice none 0 0, v])) ∧ St w' t (n + 1) (L.set i (some (dl z ⟨tp, x, 1, r⟩))) ∧ Far (fun k => k = z.g ∨ k = z.c) w w' := by
  have hz := h.at_ i z hi
  have h0 := hz.lost0
  have h1 := hz.lostn
  refine (deliver hz.sn hz.qu tp x r h0 (by omega)).mono ?_
  rintro e w' ⟨v, rfl, p1, p2, p3⟩
  refine ⟨⟨v, rfl⟩, h.one (by omega) hi ⟨p1, p2, ?_, ?_, ?_⟩ p3 rfl rfl rfl rfl, p3⟩
  · have := hz.len
    simp only [dl]
    split <;> simp <;> omega
  · simp only [dl]; split <;> omega
  · simp only [dl]; split <;> omega
theorem st_queue (h : St w t n L) {i : Nat} {z : Ze} (hi : L[i]? = some (some z)) :
    Calls Try.prog 16 #[.pointer (some ⟨z.s, 0, none⟩)] w fun e w' => (∃ a c, e = .returned (.slice a z.l.length c)) ∧ St w' t n L ∧ Far (fun k => k = z.g ∨ k = z.c) w w' := by
  have hz := h.at_ i z hi
  refine (s_queue hz.sn hz.qu hz.len).mono ?_
  rintro e w' ⟨a, c, rfl, p1, p2, p3⟩
  have := h.one (Int.le_refl _) hi (z' := z) ⟨p1, p2, hz.len, hz.lost0, hz.lostn⟩ p3 rfl rfl rfl rfl
  rw [set_same hi] at this
  exact ⟨⟨a, c, rfl⟩, this, p3⟩
theorem st_all (h : St w t n L) : Calls Try.prog 11 #[.pointer (some ⟨t, 0, none⟩)] w (AllIs (tkS (spS L) 0) w) := allS_any t _ w h.sp
theorem st_len (h : St w t n L) : Calls Try.prog 12 #[.pointer (some ⟨t, 0, none⟩)] w fun e w' => e = .returned (.int .i64 ((tkS (spS L) 0).length : Int)) ∧ Below w.heap.size w w' := lenS_any t _ w h.sp
end Go.Proofs.Ytdcfenkllpfbaaa.Sns

/-
  LAYER 3: what Of reads of bytes that were put, of groups, and of two messages joined: plain lists.
-/
import Derived.Test.YtoglgdkeknojkaaWm
namespace Go.Proofs.Ytoglgdkeknojkaa
open Go.RowKit

theorem got_at (xs ys : List Nat) (n : Nat) (hn : n ≤ 18446744073709551615) : gE (xs ++ putL 9 n ++ ys) xs.length = 0 ∧ gN (xs ++ putL 9 n ++ ys) xs.length = n ∧ gAt (xs ++ putL 9 n ++ ys) xs.length = xs.length + (putL 9 n).length := by
  have e : (xs ++ putL 9 n ++ ys).drop xs.length = putL 9 n ++ ys := by rw [List.append_assoc, List.drop_append_of_le_length (Nat.le_refl _), List.drop_length, List.nil_append]
  have g := get_put 9 0 n 0 ys rfl (by omega) (by omega)
  unfold gE gN gAt
  rw [e, g]
  exact ⟨rfl, by simp, by simp⟩
theorem strB_txt (t : ByteArray) : strB (txtL t) = t := by
  unfold strB txtL
  rw [List.map_map]
  have : (UInt8.ofNat ∘ UInt8.toNat) = id := by funext x; simp
  rw [this, List.map_id]
theorem valF_at (xs l ys : List Nat) (k : Nat) (h : k ≤ l.length) : valF (xs ++ l ++ ys) xs.length k = valF l 0 k := valF_mid xs l ys k h
theorem r4_length (n : Nat) : (r4 n).length = 4 := rfl
theorem r8_length (n : Nat) : (r8 n).length = 8 := rfl
theorem put_lt (n : Nat) (hn : n ≤ 18446744073709551615) : ∀ x ∈ putL 9 n, x < 256 := putL_byte 9 n (by omega)
theorem txt_lt (t : ByteArray) : ∀ x ∈ txtL t, x < 256 := by
  intro x hx
  unfold txtL at hx
  obtain ⟨y, -, rfl⟩ := List.mem_map.1 hx
  exact y.toNat_lt
theorem one_lt (f : Fd) (ok : f.ok) (hw : wrE f = 0) : ∀ x ∈ oneL f, x < 256 := by
  obtain ⟨h1, h2, hk⟩ := wrE_zero hw
  obtain ⟨k0, k5⟩ := kind_le hw
  obtain ⟨-, -, hv, ht⟩ := ok
  intro x hx
  unfold oneL at hx
  rcases List.mem_append.1 hx with hx | hx
  · rcases List.mem_append.1 hx with hx | hx
    · exact put_lt _ (by have := tag_le f h2 k5; omega) x hx
    · unfold midL at hx
      split at hx
      · exact r8_lt _ hv x hx
      split at hx
      · exact r4_lt _ (by omega) x hx
      split at hx
      · exact put_lt _ (by omega) x hx
      · exact put_lt _ hv x hx
  · exact txt_lt _ x hx
theorem join_lt (l : List Fd) (h : ∀ f ∈ l, f.ok ∧ wrE f = 0) : ∀ x ∈ joinL l, x < 256 := by
  intro x hx
  obtain ⟨f, hf, hx⟩ := List.mem_flatMap.1 hx
  exact one_lt f (h f hf).1 (h f hf).2 x hx
/-- What stands behind a field's tag is read as that field. -/
theorem val_at (xs ys : List Nat) (f : Fd) (ok : f.ok) (hw : wrE f = 0) (n : Nat) (hn : (n : Int) = f.num) : 
    vE (xs ++ midL f ++ (txtL f.text ++ ys)) xs.length f.kind.toNat = 0 ∧ vF (xs ++ midL f ++ (txtL f.text ++ ys)) xs.length n f.kind.toNat = f ∧ vA (xs ++ midL f ++ (txtL f.text ++ ys)) xs.length f.kind.toNat = xs.length + (midL f).length + f.text.size := by
  obtain ⟨h1, h2, hk⟩ := wrE_zero hw
  obtain ⟨-, -, hv, ht⟩ := ok
  obtain ⟨fn, fk, fv, ft⟩ := f
  simp only at *
  subst hn
  rcases hk with ⟨rfl, rfl⟩ | ⟨rfl, rfl⟩ | ⟨rfl, rfl⟩ | ⟨rfl, rfl, hv4⟩
  · obtain ⟨a, b, c⟩ := got_at xs (txtL ⟨#[]⟩ ++ ys) fv hv
    simp only [midL, vE, vF, vA, Int.toNat_zero, if_true]
    refine ⟨a, ?_, by rw [if_neg (by decide), if_neg (by decide), if_neg (by decide), c]; rfl⟩
    rw [if_neg (by decide), if_neg (by decide), if_neg (by decide), if_neg (by decide), b]; rfl
  · have e : midL ⟨(n : Int), 1, fv, ⟨#[]⟩⟩ = r8 fv := by simp [midL]
    rw [e]
    have hk1 : (1 : Int).toNat = 1 := rfl
    rw [hk1]
    refine ⟨?_, ?_, ?_⟩
    · unfold vE; rw [if_neg (by decide), if_pos rfl, if_pos (by simp [r8_length])]
    · unfold vF; rw [if_neg (by decide), if_pos rfl, if_neg (by decide), valF_at _ _ _ 8 (by simp [r8_length]), val8 fv hv]; rfl
    · unfold vA; rw [if_neg (by decide), if_pos rfl]; rfl
  · have e : midL ⟨(n : Int), 2, 0, ft⟩ = putL 9 ft.size := by simp [midL]
    rw [e]
    have hk1 : (2 : Int).toNat = 2 := rfl
    rw [hk1]
    obtain ⟨a, b, c⟩ := got_at xs (txtL ft ++ ys) ft.size (by omega)
    refine ⟨?_, ?_, ?_⟩
    · unfold vE
      rw [if_neg (by decide), if_neg (by decide), if_neg (by decide), if_pos rfl, if_neg (fun hh => hh a), if_neg]
      rw [b, c]
      simp only [List.length_append, txtL_length]
      omega
    · unfold vF
      rw [if_neg (by decide), if_neg (by decide), if_neg (by decide), if_pos rfl, b, c]
      have : ((xs ++ putL 9 ft.size ++ (txtL ft ++ ys)).drop (xs.length + (putL 9 ft.size).length)).take ft.size = txtL ft := by
        rw [show xs.length + (putL 9 ft.size).length = (xs ++ putL 9 ft.size).length from by simp, List.drop_append_of_le_length (Nat.le_refl _), List.drop_length, List.nil_append, List.take_append_of_le_length (by rw [txtL_length]; exact Nat.le_refl _), List.take_of_length_le (by rw [txtL_length]; exact Nat.le_refl _)]
      rw [this, strB_txt]
      rfl
    · unfold vA; rw [if_neg (by decide), if_neg (by decide), if_neg (by decide), b, c]
  · have e : midL ⟨(n : Int), 5, fv, ⟨#[]⟩⟩ = r4 fv := by simp [midL]
    rw [e]
    have hk1 : (5 : Int).toNat = 5 := rfl
    rw [hk1]
    refine ⟨?_, ?_, ?_⟩
    · unfold vE; rw [if_neg (by decide), if_neg (by decide), if_pos rfl, if_pos (by simp [r4_length])]
    · unfold vF; rw [if_neg (by decide), if_neg (by decide), if_pos rfl, if_neg (by decide), valF_at _ _ _ 4 (by simp [r4_length]), val4 fv hv4]; rfl
    · unfold vA; rw [if_neg (by decide), if_neg (by decide), if_pos rfl]; rfl
/-- One step over a field that was put. -/
theorem step_one (xs ys : List Nat) (f : Fd) (ok : f.ok) (hw : wrE f = 0) (op : List Nat) (out : List Fd) :
    stepF (xs ++ oneL f ++ ys) ⟨xs.length, op, out⟩ = if op ≠ [] then .ok ⟨xs.length + (oneL f).length, op, out⟩ else if 256 ≤ out.length then .error 6 else .ok ⟨xs.length + (oneL f).length, op, out ++ [f]⟩ := by
  obtain ⟨h1, h2, hk⟩ := wrE_zero hw
  obtain ⟨k0, k5⟩ := kind_le hw
  have eL : xs ++ oneL f ++ ys = xs ++ putL 9 (tag f) ++ (midL f ++ (txtL f.text ++ ys)) := by unfold oneL; simp only [List.append_assoc]
  have eL2 : xs ++ oneL f ++ ys = (xs ++ putL 9 (tag f)) ++ midL f ++ (txtL f.text ++ ys) := by unfold oneL; simp only [List.append_assoc]
  obtain ⟨a, b, c⟩ := got_at xs (midL f ++ (txtL f.text ++ ys)) (tag f) (by have := tag_le f h2 k5; omega)
  rw [← eL] at a b c
  obtain ⟨a2, b2, c2⟩ := val_at (xs ++ putL 9 (tag f)) ys f ok hw (tag f / 8) (by unfold tag; omega)
  rw [← eL2, List.length_append] at a2 b2 c2
  have m : tag f % 8 = f.kind.toNat := by unfold tag; omega
  have d : 1 ≤ tag f / 8 ∧ tag f / 8 ≤ 536870911 := by unfold tag; omega
  have hlen : xs.length + (oneL f).length = xs.length + (putL 9 (tag f)).length + (midL f).length + f.text.size := by unfold oneL; simp only [List.length_append, txtL_length]; omega
  have hk3 : f.kind.toNat ≠ 3 ∧ f.kind.toNat ≠ 4 := by omega
  unfold stepF
  simp only [a, b, c, m, a2, b2, c2, hlen]
  rw [if_neg (by simp), if_neg (by omega), if_neg hk3.1, if_neg hk3.2, if_neg (by simp)]
theorem step_open (xs ys : List Nat) (n : Nat) (h1 : 1 ≤ n) (h2 : n ≤ 536870911) (op : List Nat) (out : List Fd) :
    stepF (xs ++ putL 9 (8 * n + 3) ++ ys) ⟨xs.length, op, out⟩ = if 8 ≤ op.length then .error 12 else .ok ⟨xs.length + (putL 9 (8 * n + 3)).length, op ++ [n], out⟩ := by
  obtain ⟨a, b, c⟩ := got_at xs ys (8 * n + 3) (by omega)
  unfold stepF
  simp only [a, b, c]
  rw [if_neg (by simp), if_neg (by omega), if_pos (by omega), show (8 * n + 3) / 8 = n by omega]
theorem step_close (xs ys : List Nat) (n : Nat) (h1 : 1 ≤ n) (h2 : n ≤ 536870911) (op : List Nat) (out : List Fd) :
    stepF (xs ++ putL 9 (8 * n + 4) ++ ys) ⟨xs.length, op ++ [n], out⟩ = .ok ⟨xs.length + (putL 9 (8 * n + 4)).length, op, out⟩ := by
  obtain ⟨a, b, c⟩ := got_at xs ys (8 * n + 4) (by omega)
  unfold stepF
  simp only [a, b, c]
  rw [if_neg (by simp), if_neg (by omega), if_neg (by omega), if_pos (by omega), show (8 * n + 4) / 8 = n by omega, if_neg (by simp), List.dropLast_concat]
theorem one_pos (f : Fd) : 0 < (oneL f).length := by
  have : 0 < (putL 9 (tag f)).length := by
    unfold putL
    split <;> simp
  unfold oneL
  simp only [List.length_append]
  omega
theorem put_pos (n : Nat) : 0 < (putL 9 n).length := by
  unfold putL
  split <;> simp
theorem lead_join : ∀ (l : List Fd) (xs ys : List Nat) (out : List Fd), (∀ x ∈ xs ++ joinL l ++ ys, x < 256) → (∀ f ∈ l, f.ok ∧ wrE f = 0) → out.length + l.length ≤ 256 →
    Leads (xs ++ joinL l ++ ys) ⟨xs.length, [], out⟩ ⟨xs.length + (joinL l).length, [], out ++ l⟩
  | [], xs, ys, out, _, _, _ => by simpa [joinL] using Leads.refl _ _
  | f :: r, xs, ys, out, hb, hl, hn => by
    have e : xs ++ joinL (f :: r) ++ ys = xs ++ oneL f ++ (joinL r ++ ys) := by simp [joinL]
    have e2 : xs ++ joinL (f :: r) ++ ys = (xs ++ oneL f) ++ joinL r ++ ys := by simp [joinL]
    have hs := step_one xs (joinL r ++ ys) f (hl f (by simp)).1 (hl f (by simp)).2 [] out
    rw [if_neg (by simp), if_neg (by simp at hn; omega), ← e] at hs
    have h1 := Leads.step hb (by have := one_pos f; rw [e]; simp only [List.length_append]; omega) hs
    have h2 := lead_join r (xs ++ oneL f) ys (out ++ [f]) (by rw [← e2]; exact hb) (fun g hg => hl g (by simp [hg])) (by simp at hn ⊢; omega)
    rw [← e2, List.length_append] at h2
    have h3 := h1.trans h2
    have e3 : xs.length + (joinL (f :: r)).length = xs.length + (oneL f).length + (joinL r).length := by simp [joinL]; omega
    rw [e3, show out ++ f :: r = out ++ [f] ++ r by simp]
    exact h3
theorem lead_skip : ∀ (l : List Fd) (xs ys : List Nat) (op : List Nat) (out : List Fd), op ≠ [] → (∀ x ∈ xs ++ joinL l ++ ys, x < 256) → (∀ f ∈ l, f.ok ∧ wrE f = 0) →
    Leads (xs ++ joinL l ++ ys) ⟨xs.length, op, out⟩ ⟨xs.length + (joinL l).length, op, out⟩
  | [], xs, ys, op, out, _, _, _ => by simpa [joinL] using Leads.refl _ _
  | f :: r, xs, ys, op, out, ho, hb, hl => by
    have e : xs ++ joinL (f :: r) ++ ys = xs ++ oneL f ++ (joinL r ++ ys) := by simp [joinL]
    have e2 : xs ++ joinL (f :: r) ++ ys = (xs ++ oneL f) ++ joinL r ++ ys := by simp [joinL]
    have hs := step_one xs (joinL r ++ ys) f (hl f (by simp)).1 (hl f (by simp)).2 op out
    rw [if_pos ho, ← e] at hs
    have h1 := Leads.step hb (by have := one_pos f; rw [e]; simp only [List.length_append]; omega) hs
    have h2 := lead_skip r (xs ++ oneL f) ys op out ho (by rw [← e2]; exact hb) (fun g hg => hl g (by simp [hg]))
    rw [← e2, List.length_append] at h2
    have h3 := h1.trans h2
    have e3 : xs.length + (joinL (f :: r)).length = xs.length + (oneL f).length + (joinL r).length := by simp [joinL]; omega
    rw [e3]
    exact h3
def rep (t : List Nat) : Nat → List Nat
  | 0 => []
  | k + 1 => t ++ rep t k
theorem rep_snoc (t : List Nat) : ∀ k, rep t (k + 1) = rep t k ++ t
  | 0 => by simp [rep]
  | k + 1 => by
    have h := rep_snoc t k
    show t ++ rep t (k + 1) = t ++ rep t k ++ t
    rw [h, List.append_assoc]
theorem rep_length (t : List Nat) : ∀ k, (rep t k).length = k * t.length
  | 0 => by simp [rep]
  | k + 1 => by rw [rep, List.length_append, rep_length t k, Nat.add_mul]; omega
theorem lead_open (n : Nat) (h1 : 1 ≤ n) (h2 : n ≤ 536870911) : ∀ (k : Nat) (xs ys : List Nat) (op : List Nat) (out : List Fd), (∀ x ∈ xs ++ rep (putL 9 (8 * n + 3)) k ++ ys, x < 256) → op.length + k ≤ 8 →
    Leads (xs ++ rep (putL 9 (8 * n + 3)) k ++ ys) ⟨xs.length, op, out⟩ ⟨xs.length + (rep (putL 9 (8 * n + 3)) k).length, op ++ List.replicate k n, out⟩
  | 0, xs, ys, op, out, _, _ => by simpa [rep] using Leads.refl _ _
  | k + 1, xs, ys, op, out, hb, hk => by
    have e : xs ++ rep (putL 9 (8 * n + 3)) (k + 1) ++ ys = xs ++ putL 9 (8 * n + 3) ++ (rep (putL 9 (8 * n + 3)) k ++ ys) := by simp [rep]
    have e2 : xs ++ rep (putL 9 (8 * n + 3)) (k + 1) ++ ys = (xs ++ putL 9 (8 * n + 3)) ++ rep (putL 9 (8 * n + 3)) k ++ ys := by simp [rep]
    have hs := step_open xs (rep (putL 9 (8 * n + 3)) k ++ ys) n h1 h2 op out
    rw [if_neg (by omega), ← e] at hs
    have p1 := Leads.step hb (by have := put_pos (8 * n + 3); rw [e]; simp only [List.length_append]; omega) hs
    have p2 := lead_open n h1 h2 k (xs ++ putL 9 (8 * n + 3)) ys (op ++ [n]) out (by rw [← e2]; exact hb) (by simp; omega)
    rw [← e2, List.length_append] at p2
    have h3 := p1.trans p2
    have e3 : xs.length + (rep (putL 9 (8 * n + 3)) (k + 1)).length = xs.length + (putL 9 (8 * n + 3)).length + (rep (putL 9 (8 * n + 3)) k).length := by simp [rep]; omega
    rw [e3, show op ++ List.replicate (k + 1) n = op ++ [n] ++ List.replicate k n by simp [List.replicate_succ]]
    exact h3
theorem lead_close (n : Nat) (h1 : 1 ≤ n) (h2 : n ≤ 536870911) : ∀ (k : Nat) (xs ys : List Nat) (op : List Nat) (out : List Fd), (∀ x ∈ xs ++ rep (putL 9 (8 * n + 4)) k ++ ys, x < 256) →
    Leads (xs ++ rep (putL 9 (8 * n + 4)) k ++ ys) ⟨xs.length, op ++ List.replicate k n, out⟩ ⟨xs.length + (rep (putL 9 (8 * n + 4)) k).length, op, out⟩
  | 0, xs, ys, op, out, _ => by simpa [rep] using Leads.refl _ _
  | k + 1, xs, ys, op, out, hb => by
    have e : xs ++ rep (putL 9 (8 * n + 4)) (k + 1) ++ ys = xs ++ putL 9 (8 * n + 4) ++ (rep (putL 9 (8 * n + 4)) k ++ ys) := by simp [rep]
    have e2 : xs ++ rep (putL 9 (8 * n + 4)) (k + 1) ++ ys = (xs ++ putL 9 (8 * n + 4)) ++ rep (putL 9 (8 * n + 4)) k ++ ys := by simp [rep]
    have hs := step_close xs (rep (putL 9 (8 * n + 4)) k ++ ys) n h1 h2 (op ++ List.replicate k n) out
    rw [← e] at hs
    have p1 := Leads.step hb (by have := put_pos (8 * n + 4); rw [e]; simp only [List.length_append]; omega) hs
    have p2 := lead_close n h1 h2 k (xs ++ putL 9 (8 * n + 4)) ys op out (by rw [← e2]; exact hb)
    rw [← e2, List.length_append] at p2
    have h3 := p1.trans p2
    have e3 : xs.length + (rep (putL 9 (8 * n + 4)) (k + 1)).length = xs.length + (putL 9 (8 * n + 4)).length + (rep (putL 9 (8 * n + 4)) k).length := by simp [rep]; omega
    rw [e3, show op ++ List.replicate (k + 1) n = op ++ List.replicate k n ++ [n] by rw [List.append_assoc, ← List.replicate_succ']]
    exact h3
theorem of_leads {l : List Nat} {out : List Fd} (h4 : l.length ≤ 4096) (h : Leads l ⟨0, [], []⟩ ⟨l.length, [], out⟩) : ofR l = (out, 0) := by
  obtain ⟨n, hn, hR⟩ := of_at h4 h
  rw [hR, ofF_end hn (Nat.le_refl _)]
  simp
theorem of_bad {l : List Nat} {s : St} {e : Nat} (h4 : l.length ≤ 4096) (hp : s.place < l.length) (h : Leads l ⟨0, [], []⟩ s) (he : stepF l s = .error e) : ofR l = ([], e) := by
  obtain ⟨n, hn, hR⟩ := of_at h4 h
  rw [hR, ofF_bad hn hp he]
/-- What was put is read again. -/
theorem of_join (l : List Fd) (hok : ∀ f ∈ l, f.ok) (h : putsE l = 0) : ofR (putsL l) = (l, 0) ∧ (putsL l).length ≤ 4096 ∧ ∀ x ∈ putsL l, x < 256 := by
  have hL : putsL l = joinL l := by unfold putsL; rw [if_pos h]
  rw [hL]
  unfold putsE at h
  split at h
  · rename_i hn; exact absurd h hn
  rename_i h0
  split at h
  · cases h
  split at h
  · cases h
  have hall : ∀ f ∈ l, f.ok ∧ wrE f = 0 := fun f hf => ⟨hok f hf, firstE_zero.1 (by simpa using h0) f hf⟩
  have hb := join_lt l hall
  refine ⟨?_, by omega, hb⟩
  have := lead_join l [] [] [] (by simpa using hb) hall (by simp; omega)
  simp at this
  exact of_leads (by omega) this
end Go.Proofs.Ytoglgdkeknojkaa

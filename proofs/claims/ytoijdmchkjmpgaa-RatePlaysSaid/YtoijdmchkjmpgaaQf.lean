/-
  LAYER 22: QueueOnce: between two rounds.
-/
import Derived.Test.YtoijdmchkjmpgaaQe
import Derived.Test.YtoijdmchkjmpgaaBl
namespace Go.Proofs.Ytoijdmchkjmpgaa.Que
open Go.RowKit
theorem info3 : (Try.prog.info? 3).map (fun i => (i.zero, i.size, i.bytes)) = some (some (.int .i64 0), 1, 8) := by kernel_rfl
theorem own_chan {w w' : World} {B e size n c cap s r : Nat} {v : Value} {xs : List Value} {buf : Array Value} {cl tm : Bool} (h : w.ownsRow B e size v n xs) (hc : w.heap[c]? = some (.chan cap buf cl s r tm)) (hgr : w.grownBy w' (some c)) : w'.ownsRow B e size v n xs := by
  refine h.kept hgr (.inr ?_)
  rcases h.2 with ⟨rfl, -⟩ | ⟨g', cap, cur, rfl, -, hcur, -⟩
  · simp [Value.ownBlock]
  · intro e'
    obtain rfl : g' = c := by simpa [Value.ownBlock] using e'
    rw [hc] at hcur
    cases hcur
section
variable {w w' : World} {g c cap : Nat} {l : List Mg} {lost : Int}
/-- An owned row of another type is written. -/
theorem Qu.own (h : Qu w g c cap l lost) {B e size n : Nat} {v : Value} {xs : List Value} (o : w.ownsRow B e size v n xs) (he : 73 ≠ e) (G : w.grownBy w' v.ownBlock) : Qu w' g c cap l lost := by
  obtain ⟨s, r, hc⟩ := h.ch
  refine ⟨(G.block g h.lt (own_far o h.row he)).trans h.row, s, r, (G.block c h.clt ?_).trans hc⟩
  rcases o.2 with ⟨rfl, -⟩ | ⟨g', cap, cur, rfl, -, hcur, -⟩
  · simp [Value.ownBlock]
  · intro e'
    obtain rfl : c = g' := by simpa [Value.ownBlock] using e'
    rw [hc] at hcur
    cases hcur
end
def mq (x : Int) : Mg := ⟨{ data := #[] }, { data := #[] }, x, false⟩
def il (l : List Int) : List Value := l.map (Value.int .i64)
structure Lo (w wr : World) (len k n : Nat) (W : List Int) (next lost : Nat) (v : Value) : Prop where
  kl : k ≤ len
  k6 : k ≤ 120
  nw : next ≤ W.length
  wk : W.length + lost ≤ k
  cn : W.length ≤ next + n
  ow : wr.ownsRow w.heap.size 3 1 v W.length (il W)
  qu : Qu wr (w.heap.size + 1) w.heap.size n ((W.drop next).map mq) lost
  bw : Below w.heap.size w wr
section
variable {w wr w2 : World} {len k n : Nat} {W : List Int} {next lost : Nat} {v : Value}
theorem Lo.took (h : Lo w wr len k n W next lost v) {x : Int} {R : List Int} (hd : W.drop next = x :: R) (hk : k < len) (hk2 : k < 120) (q : Qu w2 (w.heap.size + 1) w.heap.size n (R.map mq) lost) (G : wr.grownBy w2 (some w.heap.size)) (o : Obj) : Lo w (w2.alloc o) len (k + 1) n W (next + 1) lost v := by
  obtain ⟨s, r, hc⟩ := h.qu.ch
  have e : W.drop (next + 1) = R := by rw [← List.drop_drop, hd]; rfl
  have hl : next < W.length := by
    have := congrArg List.length hd
    simp at this; omega
  have hwk := h.wk
  have hcn := h.cn
  exact ⟨by omega, by omega, by omega, by omega, by omega, own_keep (own_chan h.ow hc G) (ext_alloc _ _), by rw [e]; exact q.keep (ext_alloc _ _), (h.bw.grown G h.bw.size (fun k hk => by cases hk; exact Nat.le_refl _)).alloc (Nat.le_trans h.bw.size G.size) _⟩
theorem Lo.none (h : Lo w wr len k n W next lost v) (hk : k < len) (hk2 : k < 120) (hb : Below wr.heap.size wr w2) (o : Obj) : Lo w (w2.alloc o) len (k + 1) n W next lost v := by
  have hwk := h.wk
  have hcn := h.cn
  have b2 := ext_trans hb (ext_alloc w2 o)
  exact ⟨by omega, by omega, h.nw, by omega, by omega, own_keep h.ow b2, h.qu.keep b2, h.bw.trans (b2.mono h.bw.size)⟩
theorem Lo.lose (h : Lo w wr len k n W next lost v) (hk : k < len) (hk2 : k < 120) (q : Qu w2 (w.heap.size + 1) w.heap.size n ((W.drop next).map mq) (lost + 1)) (G : wr.grownBy w2 (some (w.heap.size + 1))) : Lo w w2 len (k + 1) n W next (lost + 1) v := by
  have hwk := h.wk
  have hcn := h.cn
  exact ⟨by omega, by omega, h.nw, by omega, by omega, own_grown h.ow h.qu.row (by decide) G, by simpa using q, h.bw.grown G h.bw.size (fun k hk => by cases hk; omega)⟩
theorem put_new {va : Option Addr} {vc p : Nat} {v3 : Value} {w3 : World} (h : Lo w wr len k n W next lost (.slice va W.length vc)) (hk : k < len) (hk2 : k < 120) (hroom : ((W.drop next).map mq).length < n) (q : Qu w2 (w.heap.size + 1) w.heap.size n ((W.drop next).map mq ++ [mq ((p : Int) + 1)]) lost) (b2 : Below w.heap.size w w2)
    (o3 : w3.ownsRow w.heap.size 3 1 v3 (W.length + 1) (il W ++ [.int .i64 ((p : Int) + 1)])) (g3 : (w2.alloc (.cells #[.int .i64 ((p : Int) + 1)] 3)).grownBy w3 (Value.slice va W.length vc).ownBlock)
    (oA : (w2.alloc (.cells #[.int .i64 ((p : Int) + 1)] 3)).ownsRow w.heap.size 3 1 (.slice va W.length vc) W.length (il W)) : Lo w w3 len (k + 1) n (W ++ [(p : Int) + 1]) next lost v3 := by
  have hwk := h.wk
  have hcn := h.cn
  have hnw := h.nw
  have qA := (q.keep (ext_alloc w2 (.cells #[.int .i64 ((p : Int) + 1)] 3))).own oA (by decide) g3
  simp only [List.length_map, List.length_drop] at hroom
  refine ⟨by omega, by omega, by simp; omega, by simp; omega, by simp; omega, by simpa [il] using o3, ?_, (b2.alloc b2.size _).grown g3 (Nat.le_trans b2.size (by simp)) (fun k hk => (oA.lt k hk).1)⟩
  rw [List.drop_append_of_le_length hnw]
  simpa using qA
theorem Lo.drewN (h : Lo w wr len k n W next lost v) (m : Nat) : Lo w (wr.drewN m) len k n W next lost v :=
  ⟨h.kl, h.k6, h.nw, h.wk, h.cn, own_keep h.ow (ext_drewN _ _), h.qu.drewN m, below_drewN h.bw m⟩
end
end Go.Proofs.Ytoijdmchkjmpgaa.Que

/-
  LAYER 16: what a packet is, as a value; a block of any size that is written in its middle.
-/
import Derived.Test.YtmpklaokgogigaaDoorKa
import Derived.Test.YtmpklaokgogigaaDoorSk
import Derived.Test.YtmpklaokgogigaaDoorBlk
import Derived.Deep.MidRow
import Derived.Laws.Rows
import Derived.Lib.Hide

namespace Go.Proofs.YtmpklaokgogigaaDoor.Pac
set_option linter.unusedVariables false
set_option linter.unusedSimpArgs false
open Go.Proofs.YtmpklaokgogigaaDoor
open Go.RowKit
/-- The cells behind a store of some into the middle. -/
def setsA (cs : Array Value) (i : Nat) : List Value → Array Value
  | [] => cs
  | v :: r => setsA (cs.setIfInBounds i v) (i + 1) r
theorem blk_sets : ∀ (vs : List Value) {w : World} {g : Nat} {t : TypeId} {cs : Array Value} (i : Nat), Blk w g t cs → Blk (w.setCells g i vs) g t (setsA cs i vs)
  | [], _, _, _, _, _, h => h
  | v :: r, _, _, _, _, i, h => by rw [World.setCells, setsA]; exact blk_sets r (i + 1) (h.set i v)
theorem below_sets : ∀ (vs : List Value) {B : Nat} {w W : World} {g : Nat} (i : Nat), Below B w W → B ≤ g → Below B w (W.setCells g i vs)
  | [], _, _, _, _, _, h, _ => h
  | v :: r, _, _, _, _, i, h, hg => by rw [World.setCells]; exact below_sets r (i + 1) (h.setCell hg v) hg
theorem blk_far_sets : ∀ (vs : List Value) {w : World} {g b : Nat} {t : TypeId} {cs : Array Value} (i : Nat), Blk w g t cs → g ≠ b → Blk (w.setCells b i vs) g t cs
  | [], _, _, _, _, _, _, h, _ => h
  | v :: r, _, _, _, _, _, i, h, hg => by rw [World.setCells]; exact blk_far_sets r (i + 1) (h.far (p := ⟨_, i, none⟩) hg v) hg
theorem blk_there {w : World} {g : Nat} {t : TypeId} {cs : Array Value} (h : Blk w g t cs) (i n : Nat) (hn : i + n ≤ cs.size) : w.there g i n := fun j hj => by
  refine ⟨?_, h.fz _⟩
  rw [h.cell, Array.getElem?_eq_getElem (by omega)]
  rfl
/-- A packet: its lists are told apart from the slices that hold them. -/
structure Pk where
  kind : Int
  id : Int
  dup : Bool
  t : ByteArray
  x : ByteArray
  q : Int
  r : Bool
  c : Con.Con
  pres : Bool
  code : Int
  fl : List Fi
  cl : List Int
def Pk.v (p : Pk) (fs cs : Value) : Array Value :=
  #[.int .i64 p.kind, .int .i64 p.id, .bool p.dup, .string p.t, .string p.x, .int .i64 p.q, .bool p.r,
    .int .i64 p.c.lev, .bool p.c.clean, .int .i64 p.c.keep, .string p.c.client, .bool p.c.hasW, .string p.c.topic, .string p.c.text, .int .i64 p.c.qos, .bool p.c.ret, .bool p.c.hasU, .string p.c.user, .bool p.c.hasP, .string p.c.pass,
    .bool p.pres, .int .i64 p.code, fs, cs]
def pk0 (k : Int) : Pk := ⟨k, 0, false, ⟨#[]⟩, ⟨#[]⟩, 0, false, Con.con0, false, 0, [], []⟩
def pkC (k : Int) (X : Con.Con) : Pk := ⟨k, 0, false, ⟨#[]⟩, ⟨#[]⟩, 0, false, X, false, 0, [], []⟩
def pkA (k : Int) (p : Bool) (c : Int) : Pk := ⟨k, 0, false, ⟨#[]⟩, ⟨#[]⟩, 0, false, Con.con0, p, c, [], []⟩
def pkM (k i : Int) (d : Bool) (t x : ByteArray) (q : Int) (r : Bool) : Pk := ⟨k, i, d, t, x, q, r, Con.con0, false, 0, [], []⟩
def pkI (k i : Int) : Pk := ⟨k, i, false, ⟨#[]⟩, ⟨#[]⟩, 0, false, Con.con0, false, 0, [], []⟩
def pkF (k i : Int) (l : List Fi) : Pk := ⟨k, i, false, ⟨#[]⟩, ⟨#[]⟩, 0, false, Con.con0, false, 0, l, []⟩
def pkS (k i : Int) (l : List Int) : Pk := ⟨k, i, false, ⟨#[]⟩, ⟨#[]⟩, 0, false, Con.con0, false, 0, [], l⟩
def noS : Value := .slice none 0 0
/-- What reads a packet answers. -/
def PkP (P : Pk) (n : Int) (w : World) (e : Ending) (w' : World) : Prop :=
  ∃ fs cs, e = .returned (.tuple #[.agg (P.v fs cs), .int .i64 n]) ∧ (FisAt w' fs P.fl ∧ Fresh w.heap.size fs) ∧ (IntsAt w' cs P.cl ∧ Fresh w.heap.size cs) ∧ Below w.heap.size w w'
theorem pk_one (P : Pk) (fs cs : Value) (h1 : fs.oneCell' = true) (h2 : cs.oneCell' = true) : (P.v fs cs).all (·.oneCell') = true := by simp [Pk.v, h1, h2]; simp [Value.oneCell']
theorem pk_size (P : Pk) (fs cs : Value) : (Tryd.prog.info? 33).map (·.size) = some (P.v fs cs).size := by kernel_rfl
theorem fis_none (w : World) : FisAt w noS [] := ⟨none, 0, rfl, by simp, .inl rfl⟩
theorem ints_none (w : World) : IntsAt w noS [] := ⟨none, 0, rfl, by simp, .inl rfl⟩
theorem fis_one {w : World} {v : Value} {l : List Fi} (h : FisAt w v l) : v.oneCell' = true := by obtain ⟨a, c, rfl, -⟩ := h; rfl
theorem ints_one {w : World} {v : Value} {l : List Int} (h : IntsAt w v l) : v.oneCell' = true := by obtain ⟨a, c, rfl, -⟩ := h; rfl
theorem fis_to {w w' : World} {v : Value} {l : List Fi} (h : FisAt w v l) (hs : w.heap.size ≤ w'.heap.size) (hb : ∀ g, v.ownBlock = some g → w'.heap[g]? = w.heap[g]?) : FisAt w' v l := by
  obtain ⟨a, cap, rfl, hc, h⟩ := h
  refine ⟨a, cap, rfl, hc, h.imp id ?_⟩
  rintro ⟨b, o, rfl, hlt, hcell⟩
  have e := hb b rfl
  have k : ∀ j, w'.cell? ⟨b, j, none⟩ = w.cell? ⟨b, j, none⟩ := fun j => by unfold World.cell?; simp only [e]
  exact ⟨b, o, rfl, Nat.lt_of_lt_of_le hlt hs, fun i f hi => by rw [k, k]; exact hcell i f hi⟩
theorem ints_to {w w' : World} {v : Value} {l : List Int} (h : IntsAt w v l) (hs : w.heap.size ≤ w'.heap.size) (hb : ∀ g, v.ownBlock = some g → w'.heap[g]? = w.heap[g]?) : IntsAt w' v l := by
  obtain ⟨a, cap, rfl, hc, h⟩ := h
  refine ⟨a, cap, rfl, hc, h.imp id ?_⟩
  rintro ⟨b, o, rfl, hlt, hcell⟩
  have e := hb b rfl
  have k : ∀ j, w'.cell? ⟨b, j, none⟩ = w.cell? ⟨b, j, none⟩ := fun j => by unfold World.cell?; simp only [e]
  exact ⟨b, o, rfl, Nat.lt_of_lt_of_le hlt hs, fun i hi => by rw [k]; exact hcell i hi⟩
/-- Nothing but block b has changed. -/
def But (b : Nat) (w w' : World) : Prop := w.heap.size ≤ w'.heap.size ∧ ∀ k, k ≠ b → w'.heap[k]? = w.heap[k]?
theorem But.refl (b : Nat) (w : World) : But b w w := ⟨Nat.le_refl _, fun _ _ => rfl⟩
theorem But.set {b : Nat} {w W : World} (h : But b w W) (i : Nat) (u : Value) : But b w (W.setCell ⟨b, i, none⟩ u) :=
  ⟨by simpa using h.1, fun k hk => (heap_setCell_other W ⟨b, i, none⟩ k u hk).trans (h.2 k hk)⟩
theorem But.fis {b B : Nat} {w W : World} {v : Value} {l : List Fi} (h : But b w W) (hv : FisAt w v l) (hf : Fresh B v) (hb : b < B) : FisAt W v l :=
  fis_to hv h.1 (fun g hg => h.2 g (by have := hf g hg; omega))
theorem But.ints {b B : Nat} {w W : World} {v : Value} {l : List Int} (h : But b w W) (hv : IntsAt w v l) (hf : Fresh B v) (hb : b < B) : IntsAt W v l :=
  ints_to hv h.1 (fun g hg => h.2 g (by have := hf g hg; omega))
theorem Fresh.le {B C : Nat} {v : Value} (h : Fresh C v) (hB : B ≤ C) : Fresh B v := fun g hg => Nat.le_trans hB (h g hg)
/-- Where a reader stands: the head and the bytes that came (block bx), the packet so far (block br). -/
structure PR (w : World) (bx br : Nat) (k f n : Int) (s : ByteArray) (cs : Array Value) (W : World) : Prop where
  x : Blk W bx 25 #[.int .i64 k, .int .i64 f, .int .i64 n, .string s]
  r : Blk W br 33 cs
  bw : Below w.heap.size w W
  lo : w.heap.size ≤ bx ∧ w.heap.size ≤ br ∧ bx ≠ br
section
variable {w W W' : World} {bx br : Nat} {k f n : Int} {s : ByteArray} {cs : Array Value}
theorem PR.ext (h : PR w bx br k f n s cs W) (hb : Below W.heap.size W W') : PR w bx br k f n s cs W' :=
  ⟨h.x.ext hb, h.r.ext hb, h.bw.trans (hb.mono h.bw.size), h.lo⟩
theorem PR.set (h : PR w bx br k f n s cs W) (i : Nat) (u : Value) : PR w bx br k f n s (cs.setIfInBounds i u) (W.setCell ⟨br, i, none⟩ u) :=
  ⟨h.x.far (p := ⟨br, i, none⟩) h.lo.2.2 u, h.r.set i u, h.bw.setCell h.lo.2.1 u, h.lo⟩
theorem PR.sets (h : PR w bx br k f n s cs W) (i : Nat) (vs : List Value) : PR w bx br k f n s (setsA cs i vs) (W.setCells br i vs) :=
  ⟨blk_far_sets vs i h.x h.lo.2.2, blk_sets vs i h.r, below_sets vs i h.bw h.lo.2.1, h.lo⟩
theorem PR.same (h : PR w bx br k f n s cs W) : W.setRow br cs = W := setRow_self W br cs 33 (0, 0) h.r
theorem PR.start (w : World) (k f n : Int) (s : ByteArray) (cs : Array Value) : PR w w.heap.size (w.heap.size + 1) k f n s cs ((w.alloc (.cells #[.int .i64 k, .int .i64 f, .int .i64 n, .string s] 25)).alloc (.cells cs 33)) := by
  have kr : Blk ((w.alloc (.cells #[.int .i64 k, .int .i64 f, .int .i64 n, .string s] 25)).alloc (.cells cs 33)) (w.heap.size + 1) 33 cs := by
    have := Blk.new (w.alloc (.cells #[.int .i64 k, .int .i64 f, .int .i64 n, .string s] 25)) 33 cs
    simpa using this
  exact ⟨(Blk.new w 25 _).alloc _, kr, ((Below.refl _ w).alloc (Nat.le_refl _) _).alloc (by simp) _, by omega, by omega, by omega⟩
end
end Go.Proofs.YtmpklaokgogigaaDoor.Pac

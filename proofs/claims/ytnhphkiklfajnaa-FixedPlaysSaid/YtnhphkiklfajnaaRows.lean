/-
  No cell of these rows narrows 'for every input' (looked for: loops, veiled, ifaces, maps, wideKeys, modest, calm, conditions, laid).
  DERIVED. THE GIVEN ROWS OF THIS SEAT. 9 by the template 'for every input the law returns true; each argument reads behind the call as it read before'; 0 by the template 'total and deterministic' (their statements: YtnhphkiklfajnaaTotals.lean).
  GIVEN WITH THE SEED: the statements are not yours to turn. If you find one false, say at which input.
  Laid BY PROGRAM, IN A SANDBOX (cutbox-rows.mjs): the forced cells as the released guide's own fill.sh prints them over the translation 9d8c6195a7d59515… (all of the seat's roots in one cut). By AI agents, Wed Nov 11 2026. No macro, syntax, notation, axiom, sorry.
-/
import Derived.Test.YtnhphkiklfajnaaChecked
import GoSem.Claim
import GoSem.ClaimJoined
import GoSem.ClaimMapViews
import Derived.JoinedTies
import Derived.KernelRfl
namespace Go.Proofs.Ytnhphkiklfajnaa
/- THE CELL 'sum', in the pinned program and in every row, IS THE sha256 OF THE DUMP (.gsa) THAT YtnhphkiklfajnaaProg.lean LOADS. Nothing in Lean hashes anything: it is a label: what it is worth is what the hold of that sum in a sandbox is worth. -/
noncomputable def Try.pinned : Pinned := { name := "ytnhphkiklfajnaa", sum := "9d8c6195a7d59515d82800f2861da7809f2f741ca264098a48bad9b50d333f61", checked := Try.checked }
namespace Rows
def none {H : Type} : Left H := { results := [], args := [] }

/-- 'crierlaw01.VarintPlays': WHATEVER THE INPUT: true; the input reads as it did. -/
def varintPlaysSpec : ChangeSpec := { name := "varintPlays", fn := fun _ => fun
  | [d1, d2, d3, d4] => { results := [.lit (.bool true)], args := [d1, d2, d3, d4] }
  | _ => none }
def varintPlaysRow : OpenClaim := { program := "ytnhphkiklfajnaa", sum := "9d8c6195a7d59515d82800f2861da7809f2f741ca264098a48bad9b50d333f61", func := "crier/crierlaw01.VarintPlays", spec := "varintPlays", unfollowed := true, recurses := true, apart := false }
def VarintPlaysSaid : Prop := varintPlaysRow.holds Try.pinned (OpenSpec.ofChange varintPlaysSpec)

/-- ITS FALSE NEIGHBOUR: 'it returns false'. Refute it at one input. -/
def varintPlaysWrong : ChangeSpec := { name := "varintPlays", fn := fun _ => fun
  | [d1, d2, d3, d4] => { results := [.lit (.bool false)], args := [d1, d2, d3, d4] }
  | _ => none }
def VarintPlaysWrongFalsely : Prop := varintPlaysRow.holds Try.pinned (OpenSpec.ofChange varintPlaysWrong)

/-- 'crierlaw01.VarintBack': WHATEVER THE INPUT: true; the input reads as it did. -/
def varintBackSpec : ChangeSpec := { name := "varintBack", fn := fun _ => fun
  | [d1, d2, d3] => { results := [.lit (.bool true)], args := [d1, d2, d3] }
  | _ => none }
def varintBackRow : OpenClaim := { program := "ytnhphkiklfajnaa", sum := "9d8c6195a7d59515d82800f2861da7809f2f741ca264098a48bad9b50d333f61", func := "crier/crierlaw01.VarintBack", spec := "varintBack", unfollowed := true, recurses := true, apart := false }
def VarintBackSaid : Prop := varintBackRow.holds Try.pinned (OpenSpec.ofChange varintBackSpec)

/-- ITS FALSE NEIGHBOUR: 'it returns false'. Refute it at one input. -/
def varintBackWrong : ChangeSpec := { name := "varintBack", fn := fun _ => fun
  | [d1, d2, d3] => { results := [.lit (.bool false)], args := [d1, d2, d3] }
  | _ => none }
def VarintBackWrongFalsely : Prop := varintBackRow.holds Try.pinned (OpenSpec.ofChange varintBackWrong)

/-- 'crierlaw01.VarintLong': WHATEVER THE INPUT: true; the input reads as it did. -/
def varintLongSpec : ChangeSpec := { name := "varintLong", fn := fun _ => fun
  | [d1, d2] => { results := [.lit (.bool true)], args := [d1, d2] }
  | _ => none }
def varintLongRow : OpenClaim := { program := "ytnhphkiklfajnaa", sum := "9d8c6195a7d59515d82800f2861da7809f2f741ca264098a48bad9b50d333f61", func := "crier/crierlaw01.VarintLong", spec := "varintLong", unfollowed := true, recurses := true, apart := false }
def VarintLongSaid : Prop := varintLongRow.holds Try.pinned (OpenSpec.ofChange varintLongSpec)

/-- ITS FALSE NEIGHBOUR: 'it returns false'. Refute it at one input. -/
def varintLongWrong : ChangeSpec := { name := "varintLong", fn := fun _ => fun
  | [d1, d2] => { results := [.lit (.bool false)], args := [d1, d2] }
  | _ => none }
def VarintLongWrongFalsely : Prop := varintLongRow.holds Try.pinned (OpenSpec.ofChange varintLongWrong)

/-- 'crierlaw01.VarintZig': WHATEVER THE INPUT: true; the input reads as it did. -/
def varintZigSpec : ChangeSpec := { name := "varintZig", fn := fun _ => fun
  | [d1, d2] => { results := [.lit (.bool true)], args := [d1, d2] }
  | _ => none }
def varintZigRow : OpenClaim := { program := "ytnhphkiklfajnaa", sum := "9d8c6195a7d59515d82800f2861da7809f2f741ca264098a48bad9b50d333f61", func := "crier/crierlaw01.VarintZig", spec := "varintZig", apart := false }
def VarintZigSaid : Prop := varintZigRow.holds Try.pinned (OpenSpec.ofChange varintZigSpec)

/-- ITS FALSE NEIGHBOUR: 'it returns false'. Refute it at one input. -/
def varintZigWrong : ChangeSpec := { name := "varintZig", fn := fun _ => fun
  | [d1, d2] => { results := [.lit (.bool false)], args := [d1, d2] }
  | _ => none }
def VarintZigWrongFalsely : Prop := varintZigRow.holds Try.pinned (OpenSpec.ofChange varintZigWrong)

/-- 'crierlaw01.VarintRises': WHATEVER THE INPUT: true; the input reads as it did. -/
def varintRisesSpec : ChangeSpec := { name := "varintRises", fn := fun _ => fun
  | [d1, d2] => { results := [.lit (.bool true)], args := [d1, d2] }
  | _ => none }
def varintRisesRow : OpenClaim := { program := "ytnhphkiklfajnaa", sum := "9d8c6195a7d59515d82800f2861da7809f2f741ca264098a48bad9b50d333f61", func := "crier/crierlaw01.VarintRises", spec := "varintRises", apart := false }
def VarintRisesSaid : Prop := varintRisesRow.holds Try.pinned (OpenSpec.ofChange varintRisesSpec)

/-- ITS FALSE NEIGHBOUR: 'it returns false'. Refute it at one input. -/
def varintRisesWrong : ChangeSpec := { name := "varintRises", fn := fun _ => fun
  | [d1, d2] => { results := [.lit (.bool false)], args := [d1, d2] }
  | _ => none }
def VarintRisesWrongFalsely : Prop := varintRisesRow.holds Try.pinned (OpenSpec.ofChange varintRisesWrong)

/-- 'crierlaw02.FixedPlays': WHATEVER THE INPUT: true; the input reads as it did. -/
def fixedPlaysSpec : ChangeSpec := { name := "fixedPlays", fn := fun _ => fun
  | [d1, d2, d3] => { results := [.lit (.bool true)], args := [d1, d2, d3] }
  | _ => none }
def fixedPlaysRow : OpenClaim := { program := "ytnhphkiklfajnaa", sum := "9d8c6195a7d59515d82800f2861da7809f2f741ca264098a48bad9b50d333f61", func := "crier/crierlaw02.FixedPlays", spec := "fixedPlays", apart := false }
def FixedPlaysSaid : Prop := fixedPlaysRow.holds Try.pinned (OpenSpec.ofChange fixedPlaysSpec)

/-- ITS FALSE NEIGHBOUR: 'it returns false'. Refute it at one input. -/
def fixedPlaysWrong : ChangeSpec := { name := "fixedPlays", fn := fun _ => fun
  | [d1, d2, d3] => { results := [.lit (.bool false)], args := [d1, d2, d3] }
  | _ => none }
def FixedPlaysWrongFalsely : Prop := fixedPlaysRow.holds Try.pinned (OpenSpec.ofChange fixedPlaysWrong)

/-- 'crierlaw02.FixedBack': WHATEVER THE INPUT: true; the input reads as it did. -/
def fixedBackSpec : ChangeSpec := { name := "fixedBack", fn := fun _ => fun
  | [d1, d2, d3] => { results := [.lit (.bool true)], args := [d1, d2, d3] }
  | _ => none }
def fixedBackRow : OpenClaim := { program := "ytnhphkiklfajnaa", sum := "9d8c6195a7d59515d82800f2861da7809f2f741ca264098a48bad9b50d333f61", func := "crier/crierlaw02.FixedBack", spec := "fixedBack", apart := false }
def FixedBackSaid : Prop := fixedBackRow.holds Try.pinned (OpenSpec.ofChange fixedBackSpec)

/-- ITS FALSE NEIGHBOUR: 'it returns false'. Refute it at one input. -/
def fixedBackWrong : ChangeSpec := { name := "fixedBack", fn := fun _ => fun
  | [d1, d2, d3] => { results := [.lit (.bool false)], args := [d1, d2, d3] }
  | _ => none }
def FixedBackWrongFalsely : Prop := fixedBackRow.holds Try.pinned (OpenSpec.ofChange fixedBackWrong)

/-- 'crierlaw02.FixedHalves': WHATEVER THE INPUT: true; the input reads as it did. -/
def fixedHalvesSpec : ChangeSpec := { name := "fixedHalves", fn := fun _ => fun
  | [d1, d2] => { results := [.lit (.bool true)], args := [d1, d2] }
  | _ => none }
def fixedHalvesRow : OpenClaim := { program := "ytnhphkiklfajnaa", sum := "9d8c6195a7d59515d82800f2861da7809f2f741ca264098a48bad9b50d333f61", func := "crier/crierlaw02.FixedHalves", spec := "fixedHalves", apart := false }
def FixedHalvesSaid : Prop := fixedHalvesRow.holds Try.pinned (OpenSpec.ofChange fixedHalvesSpec)

/-- ITS FALSE NEIGHBOUR: 'it returns false'. Refute it at one input. -/
def fixedHalvesWrong : ChangeSpec := { name := "fixedHalves", fn := fun _ => fun
  | [d1, d2] => { results := [.lit (.bool false)], args := [d1, d2] }
  | _ => none }
def FixedHalvesWrongFalsely : Prop := fixedHalvesRow.holds Try.pinned (OpenSpec.ofChange fixedHalvesWrong)

/-- 'crierlaw02.FixedTurns': WHATEVER THE INPUT: true; the input reads as it did. -/
def fixedTurnsSpec : ChangeSpec := { name := "fixedTurns", fn := fun _ => fun
  | [d1, d2] => { results := [.lit (.bool true)], args := [d1, d2] }
  | _ => none }
def fixedTurnsRow : OpenClaim := { program := "ytnhphkiklfajnaa", sum := "9d8c6195a7d59515d82800f2861da7809f2f741ca264098a48bad9b50d333f61", func := "crier/crierlaw02.FixedTurns", spec := "fixedTurns", apart := false }
def FixedTurnsSaid : Prop := fixedTurnsRow.holds Try.pinned (OpenSpec.ofChange fixedTurnsSpec)

/-- ITS FALSE NEIGHBOUR: 'it returns false'. Refute it at one input. -/
def fixedTurnsWrong : ChangeSpec := { name := "fixedTurns", fn := fun _ => fun
  | [d1, d2] => { results := [.lit (.bool false)], args := [d1, d2] }
  | _ => none }
def FixedTurnsWrongFalsely : Prop := fixedTurnsRow.holds Try.pinned (OpenSpec.ofChange fixedTurnsWrong)

/- THE SECOND FORM. 'bulk': how many values and letters a reading holds, each counted each time it is reached (what is shared counts as often as it is met; a slice's spare places count too). A statement '..UptoSaid' is the law's where the arguments, and the package variables that the reading takes, are together of bulk at most 1048576: NARROWER than '..Said'. Prove '..Said' where nothing that the law and all that it calls make is longer than what came in: it says more and counts as full. Else prove '..UptoSaid'. A law counts once. -/
mutual
def uptoBulk {H : Type} : DataW H → Nat
  | .lit (.string bytes) => bytes.length + 1
  | .lit _ => 1
  | .nil => 1
  | .ptr d => uptoBulk d + 1
  | .slice elems spare => uptoBulkAll elems + uptoBulkAll spare + 1
  | .agg parts => uptoBulkAll parts + 1
  | .iface _ d => uptoBulk d + 1
  | .map entries => uptoBulkEntries entries + 1
  | .held _ => 1
def uptoBulkAll {H : Type} : List (DataW H) → Nat
  | [] => 0
  | d :: r => uptoBulk d + uptoBulkAll r
def uptoBulkEntries {H : Type} : List (Lit × DataW H) → Nat
  | [] => 0
  | x :: r => uptoBulkEntry x + uptoBulkEntries r
def uptoBulkEntry {H : Type} : Lit × DataW H → Nat
  | (.string bytes, d) => bytes.length + uptoBulk d + 1
  | (_, d) => uptoBulk d + 1
 end
def uptoSmall : (H : Type) → List (DataW H) → Bool := fun _ ds => decide (uptoBulkAll ds ≤ 1048576)
def OpenSpec.upto (s : _root_.Go.ChangeSpec) : _root_.Go.OpenSpec := { _root_.Go.OpenSpec.ofChange s with cond := some uptoSmall }

/-- 'crierlaw01.VarintPlays', WHERE WHAT IT READS IS OF BULK AT MOST 1048576: true; the input reads as it did. -/
def varintPlaysUptoRow : OpenClaim := { program := "ytnhphkiklfajnaa", sum := "9d8c6195a7d59515d82800f2861da7809f2f741ca264098a48bad9b50d333f61", func := "crier/crierlaw01.VarintPlays", spec := "varintPlays", unfollowed := true, recurses := true, apart := false, narrowed := true }
def VarintPlaysUptoSaid : Prop := varintPlaysUptoRow.holds Try.pinned (OpenSpec.upto varintPlaysSpec)

/-- 'crierlaw01.VarintBack', WHERE WHAT IT READS IS OF BULK AT MOST 1048576: true; the input reads as it did. -/
def varintBackUptoRow : OpenClaim := { program := "ytnhphkiklfajnaa", sum := "9d8c6195a7d59515d82800f2861da7809f2f741ca264098a48bad9b50d333f61", func := "crier/crierlaw01.VarintBack", spec := "varintBack", unfollowed := true, recurses := true, apart := false, narrowed := true }
def VarintBackUptoSaid : Prop := varintBackUptoRow.holds Try.pinned (OpenSpec.upto varintBackSpec)

/-- 'crierlaw01.VarintLong', WHERE WHAT IT READS IS OF BULK AT MOST 1048576: true; the input reads as it did. -/
def varintLongUptoRow : OpenClaim := { program := "ytnhphkiklfajnaa", sum := "9d8c6195a7d59515d82800f2861da7809f2f741ca264098a48bad9b50d333f61", func := "crier/crierlaw01.VarintLong", spec := "varintLong", unfollowed := true, recurses := true, apart := false, narrowed := true }
def VarintLongUptoSaid : Prop := varintLongUptoRow.holds Try.pinned (OpenSpec.upto varintLongSpec)

/-- 'crierlaw01.VarintZig', WHERE WHAT IT READS IS OF BULK AT MOST 1048576: true; the input reads as it did. -/
def varintZigUptoRow : OpenClaim := { program := "ytnhphkiklfajnaa", sum := "9d8c6195a7d59515d82800f2861da7809f2f741ca264098a48bad9b50d333f61", func := "crier/crierlaw01.VarintZig", spec := "varintZig", apart := false, narrowed := true }
def VarintZigUptoSaid : Prop := varintZigUptoRow.holds Try.pinned (OpenSpec.upto varintZigSpec)

/-- 'crierlaw01.VarintRises', WHERE WHAT IT READS IS OF BULK AT MOST 1048576: true; the input reads as it did. -/
def varintRisesUptoRow : OpenClaim := { program := "ytnhphkiklfajnaa", sum := "9d8c6195a7d59515d82800f2861da7809f2f741ca264098a48bad9b50d333f61", func := "crier/crierlaw01.VarintRises", spec := "varintRises", apart := false, narrowed := true }
def VarintRisesUptoSaid : Prop := varintRisesUptoRow.holds Try.pinned (OpenSpec.upto varintRisesSpec)

/-- 'crierlaw02.FixedPlays', WHERE WHAT IT READS IS OF BULK AT MOST 1048576: true; the input reads as it did. -/
def fixedPlaysUptoRow : OpenClaim := { program := "ytnhphkiklfajnaa", sum := "9d8c6195a7d59515d82800f2861da7809f2f741ca264098a48bad9b50d333f61", func := "crier/crierlaw02.FixedPlays", spec := "fixedPlays", apart := false, narrowed := true }
def FixedPlaysUptoSaid : Prop := fixedPlaysUptoRow.holds Try.pinned (OpenSpec.upto fixedPlaysSpec)

/-- 'crierlaw02.FixedBack', WHERE WHAT IT READS IS OF BULK AT MOST 1048576: true; the input reads as it did. -/
def fixedBackUptoRow : OpenClaim := { program := "ytnhphkiklfajnaa", sum := "9d8c6195a7d59515d82800f2861da7809f2f741ca264098a48bad9b50d333f61", func := "crier/crierlaw02.FixedBack", spec := "fixedBack", apart := false, narrowed := true }
def FixedBackUptoSaid : Prop := fixedBackUptoRow.holds Try.pinned (OpenSpec.upto fixedBackSpec)

/-- 'crierlaw02.FixedHalves', WHERE WHAT IT READS IS OF BULK AT MOST 1048576: true; the input reads as it did. -/
def fixedHalvesUptoRow : OpenClaim := { program := "ytnhphkiklfajnaa", sum := "9d8c6195a7d59515d82800f2861da7809f2f741ca264098a48bad9b50d333f61", func := "crier/crierlaw02.FixedHalves", spec := "fixedHalves", apart := false, narrowed := true }
def FixedHalvesUptoSaid : Prop := fixedHalvesUptoRow.holds Try.pinned (OpenSpec.upto fixedHalvesSpec)

/-- 'crierlaw02.FixedTurns', WHERE WHAT IT READS IS OF BULK AT MOST 1048576: true; the input reads as it did. -/
def fixedTurnsUptoRow : OpenClaim := { program := "ytnhphkiklfajnaa", sum := "9d8c6195a7d59515d82800f2861da7809f2f741ca264098a48bad9b50d333f61", func := "crier/crierlaw02.FixedTurns", spec := "fixedTurns", apart := false, narrowed := true }
def FixedTurnsUptoSaid : Prop := fixedTurnsUptoRow.holds Try.pinned (OpenSpec.upto fixedTurnsSpec)

end Rows
end Go.Proofs.Ytnhphkiklfajnaa

/-
  No cell of these rows narrows 'for every input' (looked for: loops, veiled, ifaces, maps, wideKeys, modest, calm, conditions, laid).
  DERIVED. THE GIVEN ROWS OF THIS SEAT. 8 by the template 'for every input the law returns true; each argument reads behind the call as it read before'; 0 by the template 'total and deterministic' (their statements: YtaannopaipjcoabTotals.lean).
  GIVEN WITH THE SEED: the statements are not yours to turn. If you find one false, say at which input.
  Laid BY PROGRAM, IN A SANDBOX (cutbox-rows.mjs): the forced cells as the released guide's own fill.sh prints them over the translation 4f2bdab303849e03… (all of the seat's roots in one cut). By AI agents, Wed Nov 11 2026. No macro, syntax, notation, axiom, sorry.
-/
import Derived.Test.YtaannopaipjcoabChecked
import GoSem.Claim
import GoSem.ClaimJoined
import GoSem.ClaimMapViews
import Derived.JoinedTies
import Derived.KernelRfl
namespace Go.Proofs.Ytaannopaipjcoab
/- THE CELL 'sum', in the pinned program and in every row, IS THE sha256 OF THE DUMP (.gsa) THAT YtaannopaipjcoabProg.lean LOADS. Nothing in Lean hashes anything: it is a label: what it is worth is what the hold of that sum in a sandbox is worth. -/
noncomputable def Try.pinned : Pinned := { name := "ytaannopaipjcoab", sum := "4f2bdab303849e03097e711d64ecb7df70dcfaa006a8cf1fe34a992b4604290c", checked := Try.checked }
namespace Rows
def none {H : Type} : Left H := { results := [], args := [] }

/-- 'crierlaw29.SeqsPlays': WHATEVER THE INPUT: true; the input reads as it did. -/
def seqsPlaysSpec : ChangeSpec := { name := "seqsPlays", fn := fun _ => fun
  | [d1, d2] => { results := [.lit (.bool true)], args := [d1, d2] }
  | _ => none }
def seqsPlaysRow : OpenClaim := { program := "ytaannopaipjcoab", sum := "4f2bdab303849e03097e711d64ecb7df70dcfaa006a8cf1fe34a992b4604290c", func := "crier/crierlaw29.SeqsPlays", spec := "seqsPlays", unfollowed := true, recurses := true, apart := false }
def SeqsPlaysSaid : Prop := seqsPlaysRow.holds Try.pinned (OpenSpec.ofChange seqsPlaysSpec)

/-- ITS FALSE NEIGHBOUR: 'it returns false'. Refute it at one input. -/
def seqsPlaysWrong : ChangeSpec := { name := "seqsPlays", fn := fun _ => fun
  | [d1, d2] => { results := [.lit (.bool false)], args := [d1, d2] }
  | _ => none }
def SeqsPlaysWrongFalsely : Prop := seqsPlaysRow.holds Try.pinned (OpenSpec.ofChange seqsPlaysWrong)

/-- 'crierlaw29.SeqsRound': WHATEVER THE INPUT: true; the input reads as it did. -/
def seqsRoundSpec : ChangeSpec := { name := "seqsRound", fn := fun _ => fun
  | [d1, d2, d3] => { results := [.lit (.bool true)], args := [d1, d2, d3] }
  | _ => none }
def seqsRoundRow : OpenClaim := { program := "ytaannopaipjcoab", sum := "4f2bdab303849e03097e711d64ecb7df70dcfaa006a8cf1fe34a992b4604290c", func := "crier/crierlaw29.SeqsRound", spec := "seqsRound", unfollowed := true, recurses := true, apart := false }
def SeqsRoundSaid : Prop := seqsRoundRow.holds Try.pinned (OpenSpec.ofChange seqsRoundSpec)

/-- ITS FALSE NEIGHBOUR: 'it returns false'. Refute it at one input. -/
def seqsRoundWrong : ChangeSpec := { name := "seqsRound", fn := fun _ => fun
  | [d1, d2, d3] => { results := [.lit (.bool false)], args := [d1, d2, d3] }
  | _ => none }
def SeqsRoundWrongFalsely : Prop := seqsRoundRow.holds Try.pinned (OpenSpec.ofChange seqsRoundWrong)

/-- 'crierlaw29.SeqsCounts': WHATEVER THE INPUT: true; the input reads as it did. -/
def seqsCountsSpec : ChangeSpec := { name := "seqsCounts", fn := fun _ => fun
  | [d1, d2] => { results := [.lit (.bool true)], args := [d1, d2] }
  | _ => none }
def seqsCountsRow : OpenClaim := { program := "ytaannopaipjcoab", sum := "4f2bdab303849e03097e711d64ecb7df70dcfaa006a8cf1fe34a992b4604290c", func := "crier/crierlaw29.SeqsCounts", spec := "seqsCounts", unfollowed := true, recurses := true, apart := false }
def SeqsCountsSaid : Prop := seqsCountsRow.holds Try.pinned (OpenSpec.ofChange seqsCountsSpec)

/-- ITS FALSE NEIGHBOUR: 'it returns false'. Refute it at one input. -/
def seqsCountsWrong : ChangeSpec := { name := "seqsCounts", fn := fun _ => fun
  | [d1, d2] => { results := [.lit (.bool false)], args := [d1, d2] }
  | _ => none }
def SeqsCountsWrongFalsely : Prop := seqsCountsRow.holds Try.pinned (OpenSpec.ofChange seqsCountsWrong)

/-- 'crierlaw29.SeqsZero': WHATEVER THE INPUT: true; the input reads as it did. -/
def seqsZeroSpec : ChangeSpec := { name := "seqsZero", fn := fun _ => fun
  | [d] => { results := [.lit (.bool true)], args := [d] }
  | _ => none }
def seqsZeroRow : OpenClaim := { program := "ytaannopaipjcoab", sum := "4f2bdab303849e03097e711d64ecb7df70dcfaa006a8cf1fe34a992b4604290c", func := "crier/crierlaw29.SeqsZero", spec := "seqsZero", unfollowed := true, recurses := true, apart := false }
def SeqsZeroSaid : Prop := seqsZeroRow.holds Try.pinned (OpenSpec.ofChange seqsZeroSpec)

/-- ITS FALSE NEIGHBOUR: 'it returns false'. Refute it at one input. -/
def seqsZeroWrong : ChangeSpec := { name := "seqsZero", fn := fun _ => fun
  | [d] => { results := [.lit (.bool false)], args := [d] }
  | _ => none }
def SeqsZeroWrongFalsely : Prop := seqsZeroRow.holds Try.pinned (OpenSpec.ofChange seqsZeroWrong)

/-- 'crierlaw34.HostPlays': WHATEVER THE INPUT: true; the input reads as it did. -/
def hostPlaysSpec : ChangeSpec := { name := "hostPlays", fn := fun _ => fun
  | [d1, d2] => { results := [.lit (.bool true)], args := [d1, d2] }
  | _ => none }
def hostPlaysRow : OpenClaim := { program := "ytaannopaipjcoab", sum := "4f2bdab303849e03097e711d64ecb7df70dcfaa006a8cf1fe34a992b4604290c", func := "crier/crierlaw34.HostPlays", spec := "hostPlays", unfollowed := true, recurses := true, apart := false }
def HostPlaysSaid : Prop := hostPlaysRow.holds Try.pinned (OpenSpec.ofChange hostPlaysSpec)

/-- ITS FALSE NEIGHBOUR: 'it returns false'. Refute it at one input. -/
def hostPlaysWrong : ChangeSpec := { name := "hostPlays", fn := fun _ => fun
  | [d1, d2] => { results := [.lit (.bool false)], args := [d1, d2] }
  | _ => none }
def HostPlaysWrongFalsely : Prop := hostPlaysRow.holds Try.pinned (OpenSpec.ofChange hostPlaysWrong)

/-- 'crierlaw34.HostLast': WHATEVER THE INPUT: true; the input reads as it did. -/
def hostLastSpec : ChangeSpec := { name := "hostLast", fn := fun _ => fun
  | [d1, d2, d3] => { results := [.lit (.bool true)], args := [d1, d2, d3] }
  | _ => none }
def hostLastRow : OpenClaim := { program := "ytaannopaipjcoab", sum := "4f2bdab303849e03097e711d64ecb7df70dcfaa006a8cf1fe34a992b4604290c", func := "crier/crierlaw34.HostLast", spec := "hostLast", apart := false }
def HostLastSaid : Prop := hostLastRow.holds Try.pinned (OpenSpec.ofChange hostLastSpec)

/-- ITS FALSE NEIGHBOUR: 'it returns false'. Refute it at one input. -/
def hostLastWrong : ChangeSpec := { name := "hostLast", fn := fun _ => fun
  | [d1, d2, d3] => { results := [.lit (.bool false)], args := [d1, d2, d3] }
  | _ => none }
def HostLastWrongFalsely : Prop := hostLastRow.holds Try.pinned (OpenSpec.ofChange hostLastWrong)

/-- 'crierlaw34.HostRoom': WHATEVER THE INPUT: true; the input reads as it did. -/
def hostRoomSpec : ChangeSpec := { name := "hostRoom", fn := fun _ => fun
  | [d1, d2, d3] => { results := [.lit (.bool true)], args := [d1, d2, d3] }
  | _ => none }
def hostRoomRow : OpenClaim := { program := "ytaannopaipjcoab", sum := "4f2bdab303849e03097e711d64ecb7df70dcfaa006a8cf1fe34a992b4604290c", func := "crier/crierlaw34.HostRoom", spec := "hostRoom", apart := false }
def HostRoomSaid : Prop := hostRoomRow.holds Try.pinned (OpenSpec.ofChange hostRoomSpec)

/-- ITS FALSE NEIGHBOUR: 'it returns false'. Refute it at one input. -/
def hostRoomWrong : ChangeSpec := { name := "hostRoom", fn := fun _ => fun
  | [d1, d2, d3] => { results := [.lit (.bool false)], args := [d1, d2, d3] }
  | _ => none }
def HostRoomWrongFalsely : Prop := hostRoomRow.holds Try.pinned (OpenSpec.ofChange hostRoomWrong)

/-- 'crierlaw34.HostZero': WHATEVER THE INPUT: true; the input reads as it did. -/
def hostZeroSpec : ChangeSpec := { name := "hostZero", fn := fun _ => fun
  | [d1, d2] => { results := [.lit (.bool true)], args := [d1, d2] }
  | _ => none }
def hostZeroRow : OpenClaim := { program := "ytaannopaipjcoab", sum := "4f2bdab303849e03097e711d64ecb7df70dcfaa006a8cf1fe34a992b4604290c", func := "crier/crierlaw34.HostZero", spec := "hostZero", unfollowed := true, recurses := true, apart := false }
def HostZeroSaid : Prop := hostZeroRow.holds Try.pinned (OpenSpec.ofChange hostZeroSpec)

/-- ITS FALSE NEIGHBOUR: 'it returns false'. Refute it at one input. -/
def hostZeroWrong : ChangeSpec := { name := "hostZero", fn := fun _ => fun
  | [d1, d2] => { results := [.lit (.bool false)], args := [d1, d2] }
  | _ => none }
def HostZeroWrongFalsely : Prop := hostZeroRow.holds Try.pinned (OpenSpec.ofChange hostZeroWrong)

/- THE SECOND FORM. 'bulk': how many values and letters a reading holds, each counted each time it is reached (what is shared counts as often as it is met; a slice's spare places count too). A statement '..UptoSaid' is the law's where the arguments, and the package variables that the reading takes, are together of bulk at most 1048576: NARROWER than '..Said'. Prove '..Said' where nothing that the law and all that it calls make is longer than what came in: it says more and counts as full. Else prove '..UptoSaid'. A law counts once. -/
mutual
def uptoBulk {H : Type} : DataW H → Nat
  | .lit (.string bytes) => bytes.length + 1
  | .lit _ => 1
  | .nil => 1
  | .ptr d => uptoBulk d + 1
  | .slice elems spare => uptoBulkAll elems + uptoBulkAll spare + 1
  | .agg parts => uptoBulkAll parts + 1
  | .iface _ d => uptoBulk d + 1
  | .map entries => uptoBulkEntries entries + 1
  | .held _ => 1
def uptoBulkAll {H : Type} : List (DataW H) → Nat
  | [] => 0
  | d :: r => uptoBulk d + uptoBulkAll r
def uptoBulkEntries {H : Type} : List (Lit × DataW H) → Nat
  | [] => 0
  | x :: r => uptoBulkEntry x + uptoBulkEntries r
def uptoBulkEntry {H : Type} : Lit × DataW H → Nat
  | (.string bytes, d) => bytes.length + uptoBulk d + 1
  | (_, d) => uptoBulk d + 1
 end
def uptoSmall : (H : Type) → List (DataW H) → Bool := fun _ ds => decide (uptoBulkAll ds ≤ 1048576)
def OpenSpec.upto (s : _root_.Go.ChangeSpec) : _root_.Go.OpenSpec := { _root_.Go.OpenSpec.ofChange s with cond := some uptoSmall }

/-- 'crierlaw29.SeqsPlays', WHERE WHAT IT READS IS OF BULK AT MOST 1048576: true; the input reads as it did. -/
def seqsPlaysUptoRow : OpenClaim := { program := "ytaannopaipjcoab", sum := "4f2bdab303849e03097e711d64ecb7df70dcfaa006a8cf1fe34a992b4604290c", func := "crier/crierlaw29.SeqsPlays", spec := "seqsPlays", unfollowed := true, recurses := true, apart := false, narrowed := true }
def SeqsPlaysUptoSaid : Prop := seqsPlaysUptoRow.holds Try.pinned (OpenSpec.upto seqsPlaysSpec)

/-- 'crierlaw29.SeqsRound', WHERE WHAT IT READS IS OF BULK AT MOST 1048576: true; the input reads as it did. -/
def seqsRoundUptoRow : OpenClaim := { program := "ytaannopaipjcoab", sum := "4f2bdab303849e03097e711d64ecb7df70dcfaa006a8cf1fe34a992b4604290c", func := "crier/crierlaw29.SeqsRound", spec := "seqsRound", unfollowed := true, recurses := true, apart := false, narrowed := true }
def SeqsRoundUptoSaid : Prop := seqsRoundUptoRow.holds Try.pinned (OpenSpec.upto seqsRoundSpec)

/-- 'crierlaw29.SeqsCounts', WHERE WHAT IT READS IS OF BULK AT MOST 1048576: true; the input reads as it did. -/
def seqsCountsUptoRow : OpenClaim := { program := "ytaannopaipjcoab", sum := "4f2bdab303849e03097e711d64ecb7df70dcfaa006a8cf1fe34a992b4604290c", func := "crier/crierlaw29.SeqsCounts", spec := "seqsCounts", unfollowed := true, recurses := true, apart := false, narrowed := true }
def SeqsCountsUptoSaid : Prop := seqsCountsUptoRow.holds Try.pinned (OpenSpec.upto seqsCountsSpec)

/-- 'crierlaw29.SeqsZero', WHERE WHAT IT READS IS OF BULK AT MOST 1048576: true; the input reads as it did. -/
def seqsZeroUptoRow : OpenClaim := { program := "ytaannopaipjcoab", sum := "4f2bdab303849e03097e711d64ecb7df70dcfaa006a8cf1fe34a992b4604290c", func := "crier/crierlaw29.SeqsZero", spec := "seqsZero", unfollowed := true, recurses := true, apart := false, narrowed := true }
def SeqsZeroUptoSaid : Prop := seqsZeroUptoRow.holds Try.pinned (OpenSpec.upto seqsZeroSpec)

/-- 'crierlaw34.HostPlays', WHERE WHAT IT READS IS OF BULK AT MOST 1048576: true; the input reads as it did. -/
def hostPlaysUptoRow : OpenClaim := { program := "ytaannopaipjcoab", sum := "4f2bdab303849e03097e711d64ecb7df70dcfaa006a8cf1fe34a992b4604290c", func := "crier/crierlaw34.HostPlays", spec := "hostPlays", unfollowed := true, recurses := true, apart := false, narrowed := true }
def HostPlaysUptoSaid : Prop := hostPlaysUptoRow.holds Try.pinned (OpenSpec.upto hostPlaysSpec)

/-- 'crierlaw34.HostLast', WHERE WHAT IT READS IS OF BULK AT MOST 1048576: true; the input reads as it did. -/
def hostLastUptoRow : OpenClaim := { program := "ytaannopaipjcoab", sum := "4f2bdab303849e03097e711d64ecb7df70dcfaa006a8cf1fe34a992b4604290c", func := "crier/crierlaw34.HostLast", spec := "hostLast", apart := false, narrowed := true }
def HostLastUptoSaid : Prop := hostLastUptoRow.holds Try.pinned (OpenSpec.upto hostLastSpec)

/-- 'crierlaw34.HostRoom', WHERE WHAT IT READS IS OF BULK AT MOST 1048576: true; the input reads as it did. -/
def hostRoomUptoRow : OpenClaim := { program := "ytaannopaipjcoab", sum := "4f2bdab303849e03097e711d64ecb7df70dcfaa006a8cf1fe34a992b4604290c", func := "crier/crierlaw34.HostRoom", spec := "hostRoom", apart := false, narrowed := true }
def HostRoomUptoSaid : Prop := hostRoomUptoRow.holds Try.pinned (OpenSpec.upto hostRoomSpec)

/-- 'crierlaw34.HostZero', WHERE WHAT IT READS IS OF BULK AT MOST 1048576: true; the input reads as it did. -/
def hostZeroUptoRow : OpenClaim := { program := "ytaannopaipjcoab", sum := "4f2bdab303849e03097e711d64ecb7df70dcfaa006a8cf1fe34a992b4604290c", func := "crier/crierlaw34.HostZero", spec := "hostZero", unfollowed := true, recurses := true, apart := false, narrowed := true }
def HostZeroUptoSaid : Prop := hostZeroUptoRow.holds Try.pinned (OpenSpec.upto hostZeroSpec)

end Rows
end Go.Proofs.Ytaannopaipjcoab

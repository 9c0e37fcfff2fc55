/-
  No cell of these rows narrows 'for every input' (looked for: loops, veiled, ifaces, maps, wideKeys, modest, calm, conditions, laid).
  DERIVED. THE GIVEN ROWS OF THIS SEAT. 5 by the template 'for every input the law returns true; each argument reads behind the call as it read before'; 0 by the template 'total and deterministic' (their statements: YtppjnpempgpkaaaGreatTotals.lean).
  GIVEN WITH THE SEED: the statements are not yours to turn. If you find one false, say at which input.
  Laid BY PROGRAM, IN A SANDBOX (cutbox-rows.mjs): the forced cells as the released guide's own fill.sh prints them over the translation 61d7e1c87b83e433… (all of the seat's roots in one cut). By AI agents, Wed Nov 11 2026. No macro, syntax, notation, axiom, sorry.
-/
import Derived.Test.YtppjnpempgpkaaaGreatChecked
import GoSem.Claim
import GoSem.ClaimJoined
import GoSem.ClaimMapViews
import Derived.JoinedTies
import Derived.KernelRfl
namespace Go.Proofs.YtppjnpempgpkaaaGreat
/- THE CELL 'sum', in the pinned program and in every row, IS THE sha256 OF THE DUMP (.gsa) THAT YtppjnpempgpkaaaGreatProg.lean LOADS. Nothing in Lean hashes anything: it is a label: what it is worth is what the hold of that sum in a sandbox is worth. -/
noncomputable def Tryz.pinned : Pinned := { name := "ytppjnpempgpkaaagreat", sum := "61d7e1c87b83e433de3c9053f0219994f5f1b3fda6402fb6468d92303219811a", checked := Tryz.checked }
namespace Rows
def none {H : Type} : Left H := { results := [], args := [] }

/-- 'peaveylaw04.BoomBests': WHATEVER THE INPUT: true; the input reads as it did. -/
def boomBestsSpec : ChangeSpec := { name := "boomBests", fn := fun _ => fun
  | [d1, d2] => { results := [.lit (.bool true)], args := [d1, d2] }
  | _ => none }
def boomBestsRow : OpenClaim := { program := "ytppjnpempgpkaaagreat", sum := "61d7e1c87b83e433de3c9053f0219994f5f1b3fda6402fb6468d92303219811a", func := "peavey/peaveylaw04.BoomBests", spec := "boomBests", inPlace := ["internal/bytealg.IndexByteString"], unfollowed := true, recurses := true, plainKeys := false, apart := false }
def BoomBestsSaid : Prop := boomBestsRow.holds Tryz.pinned (OpenSpec.ofChange boomBestsSpec)

/-- ITS FALSE NEIGHBOUR: 'it returns false'. Refute it at one input. -/
def boomBestsWrong : ChangeSpec := { name := "boomBests", fn := fun _ => fun
  | [d1, d2] => { results := [.lit (.bool false)], args := [d1, d2] }
  | _ => none }
def BoomBestsWrongFalsely : Prop := boomBestsRow.holds Tryz.pinned (OpenSpec.ofChange boomBestsWrong)

/-- 'peaveylaw04.BoomProved': WHATEVER THE INPUT: true; the input reads as it did. -/
def boomProvedSpec : ChangeSpec := { name := "boomProved", fn := fun _ => fun
  | [d1, d2, d3] => { results := [.lit (.bool true)], args := [d1, d2, d3] }
  | _ => none }
def boomProvedRow : OpenClaim := { program := "ytppjnpempgpkaaagreat", sum := "61d7e1c87b83e433de3c9053f0219994f5f1b3fda6402fb6468d92303219811a", func := "peavey/peaveylaw04.BoomProved", spec := "boomProved", inPlace := ["internal/bytealg.IndexByteString"], unfollowed := true, recurses := true, plainKeys := false, apart := false }
def BoomProvedSaid : Prop := boomProvedRow.holds Tryz.pinned (OpenSpec.ofChange boomProvedSpec)

/-- ITS FALSE NEIGHBOUR: 'it returns false'. Refute it at one input. -/
def boomProvedWrong : ChangeSpec := { name := "boomProved", fn := fun _ => fun
  | [d1, d2, d3] => { results := [.lit (.bool false)], args := [d1, d2, d3] }
  | _ => none }
def BoomProvedWrongFalsely : Prop := boomProvedRow.holds Tryz.pinned (OpenSpec.ofChange boomProvedWrong)

/-- 'peaveylaw04.BoomBetween': WHATEVER THE INPUT: true; the input reads as it did. -/
def boomBetweenSpec : ChangeSpec := { name := "boomBetween", fn := fun _ => fun
  | [d1, d2, d3] => { results := [.lit (.bool true)], args := [d1, d2, d3] }
  | _ => none }
def boomBetweenRow : OpenClaim := { program := "ytppjnpempgpkaaagreat", sum := "61d7e1c87b83e433de3c9053f0219994f5f1b3fda6402fb6468d92303219811a", func := "peavey/peaveylaw04.BoomBetween", spec := "boomBetween", inPlace := ["internal/bytealg.IndexByteString"], unfollowed := true, recurses := true, plainKeys := false, apart := false }
def BoomBetweenSaid : Prop := boomBetweenRow.holds Tryz.pinned (OpenSpec.ofChange boomBetweenSpec)

/-- ITS FALSE NEIGHBOUR: 'it returns false'. Refute it at one input. -/
def boomBetweenWrong : ChangeSpec := { name := "boomBetween", fn := fun _ => fun
  | [d1, d2, d3] => { results := [.lit (.bool false)], args := [d1, d2, d3] }
  | _ => none }
def BoomBetweenWrongFalsely : Prop := boomBetweenRow.holds Tryz.pinned (OpenSpec.ofChange boomBetweenWrong)

/-- 'peaveylaw04.BoomMore': WHATEVER THE INPUT: true; the input reads as it did. -/
def boomMoreSpec : ChangeSpec := { name := "boomMore", fn := fun _ => fun
  | [d1, d2] => { results := [.lit (.bool true)], args := [d1, d2] }
  | _ => none }
def boomMoreRow : OpenClaim := { program := "ytppjnpempgpkaaagreat", sum := "61d7e1c87b83e433de3c9053f0219994f5f1b3fda6402fb6468d92303219811a", func := "peavey/peaveylaw04.BoomMore", spec := "boomMore", inPlace := ["internal/bytealg.IndexByteString"], unfollowed := true, recurses := true, plainKeys := false, apart := false }
def BoomMoreSaid : Prop := boomMoreRow.holds Tryz.pinned (OpenSpec.ofChange boomMoreSpec)

/-- ITS FALSE NEIGHBOUR: 'it returns false'. Refute it at one input. -/
def boomMoreWrong : ChangeSpec := { name := "boomMore", fn := fun _ => fun
  | [d1, d2] => { results := [.lit (.bool false)], args := [d1, d2] }
  | _ => none }
def BoomMoreWrongFalsely : Prop := boomMoreRow.holds Tryz.pinned (OpenSpec.ofChange boomMoreWrong)

/-- 'peaveylaw04.BoomTurned': WHATEVER THE INPUT: true; the input reads as it did. -/
def boomTurnedSpec : ChangeSpec := { name := "boomTurned", fn := fun _ => fun
  | [d1, d2] => { results := [.lit (.bool true)], args := [d1, d2] }
  | _ => none }
def boomTurnedRow : OpenClaim := { program := "ytppjnpempgpkaaagreat", sum := "61d7e1c87b83e433de3c9053f0219994f5f1b3fda6402fb6468d92303219811a", func := "peavey/peaveylaw04.BoomTurned", spec := "boomTurned", inPlace := ["internal/bytealg.IndexByteString"], unfollowed := true, recurses := true, plainKeys := false, apart := false }
def BoomTurnedSaid : Prop := boomTurnedRow.holds Tryz.pinned (OpenSpec.ofChange boomTurnedSpec)

/-- ITS FALSE NEIGHBOUR: 'it returns false'. Refute it at one input. -/
def boomTurnedWrong : ChangeSpec := { name := "boomTurned", fn := fun _ => fun
  | [d1, d2] => { results := [.lit (.bool false)], args := [d1, d2] }
  | _ => none }
def BoomTurnedWrongFalsely : Prop := boomTurnedRow.holds Tryz.pinned (OpenSpec.ofChange boomTurnedWrong)

/- THE SECOND FORM. 'bulk': how many values and letters a reading holds, each counted each time it is reached (what is shared counts as often as it is met; a slice's spare places count too). A statement '..UptoSaid' is the law's where the arguments, and the package variables that the reading takes, are together of bulk at most 1048576: NARROWER than '..Said'. Prove '..Said' where nothing that the law and all that it calls make is longer than what came in: it says more and counts as full. Else prove '..UptoSaid'. A law counts once. -/
mutual
def uptoBulk {H : Type} : DataW H → Nat
  | .lit (.string bytes) => bytes.length + 1
  | .lit _ => 1
  | .nil => 1
  | .ptr d => uptoBulk d + 1
  | .slice elems spare => uptoBulkAll elems + uptoBulkAll spare + 1
  | .agg parts => uptoBulkAll parts + 1
  | .iface _ d => uptoBulk d + 1
  | .map entries => uptoBulkEntries entries + 1
  | .held _ => 1
def uptoBulkAll {H : Type} : List (DataW H) → Nat
  | [] => 0
  | d :: r => uptoBulk d + uptoBulkAll r
def uptoBulkEntries {H : Type} : List (Lit × DataW H) → Nat
  | [] => 0
  | x :: r => uptoBulkEntry x + uptoBulkEntries r
def uptoBulkEntry {H : Type} : Lit × DataW H → Nat
  | (.string bytes, d) => bytes.length + uptoBulk d + 1
  | (_, d) => uptoBulk d + 1
 end
def uptoSmall : (H : Type) → List (DataW H) → Bool := fun _ ds => decide (uptoBulkAll ds ≤ 1048576)
def OpenSpec.upto (s : _root_.Go.ChangeSpec) : _root_.Go.OpenSpec := { _root_.Go.OpenSpec.ofChange s with cond := some uptoSmall }

/-- 'peaveylaw04.BoomBests', WHERE WHAT IT READS IS OF BULK AT MOST 1048576: true; the input reads as it did. -/
def boomBestsUptoRow : OpenClaim := { program := "ytppjnpempgpkaaagreat", sum := "61d7e1c87b83e433de3c9053f0219994f5f1b3fda6402fb6468d92303219811a", func := "peavey/peaveylaw04.BoomBests", spec := "boomBests", inPlace := ["internal/bytealg.IndexByteString"], unfollowed := true, recurses := true, plainKeys := false, apart := false, narrowed := true }
def BoomBestsUptoSaid : Prop := boomBestsUptoRow.holds Tryz.pinned (OpenSpec.upto boomBestsSpec)

/-- 'peaveylaw04.BoomProved', WHERE WHAT IT READS IS OF BULK AT MOST 1048576: true; the input reads as it did. -/
def boomProvedUptoRow : OpenClaim := { program := "ytppjnpempgpkaaagreat", sum := "61d7e1c87b83e433de3c9053f0219994f5f1b3fda6402fb6468d92303219811a", func := "peavey/peaveylaw04.BoomProved", spec := "boomProved", inPlace := ["internal/bytealg.IndexByteString"], unfollowed := true, recurses := true, plainKeys := false, apart := false, narrowed := true }
def BoomProvedUptoSaid : Prop := boomProvedUptoRow.holds Tryz.pinned (OpenSpec.upto boomProvedSpec)

/-- 'peaveylaw04.BoomBetween', WHERE WHAT IT READS IS OF BULK AT MOST 1048576: true; the input reads as it did. -/
def boomBetweenUptoRow : OpenClaim := { program := "ytppjnpempgpkaaagreat", sum := "61d7e1c87b83e433de3c9053f0219994f5f1b3fda6402fb6468d92303219811a", func := "peavey/peaveylaw04.BoomBetween", spec := "boomBetween", inPlace := ["internal/bytealg.IndexByteString"], unfollowed := true, recurses := true, plainKeys := false, apart := false, narrowed := true }
def BoomBetweenUptoSaid : Prop := boomBetweenUptoRow.holds Tryz.pinned (OpenSpec.upto boomBetweenSpec)

/-- 'peaveylaw04.BoomMore', WHERE WHAT IT READS IS OF BULK AT MOST 1048576: true; the input reads as it did. -/
def boomMoreUptoRow : OpenClaim := { program := "ytppjnpempgpkaaagreat", sum := "61d7e1c87b83e433de3c9053f0219994f5f1b3fda6402fb6468d92303219811a", func := "peavey/peaveylaw04.BoomMore", spec := "boomMore", inPlace := ["internal/bytealg.IndexByteString"], unfollowed := true, recurses := true, plainKeys := false, apart := false, narrowed := true }
def BoomMoreUptoSaid : Prop := boomMoreUptoRow.holds Tryz.pinned (OpenSpec.upto boomMoreSpec)

/-- 'peaveylaw04.BoomTurned', WHERE WHAT IT READS IS OF BULK AT MOST 1048576: true; the input reads as it did. -/
def boomTurnedUptoRow : OpenClaim := { program := "ytppjnpempgpkaaagreat", sum := "61d7e1c87b83e433de3c9053f0219994f5f1b3fda6402fb6468d92303219811a", func := "peavey/peaveylaw04.BoomTurned", spec := "boomTurned", inPlace := ["internal/bytealg.IndexByteString"], unfollowed := true, recurses := true, plainKeys := false, apart := false, narrowed := true }
def BoomTurnedUptoSaid : Prop := boomTurnedUptoRow.holds Tryz.pinned (OpenSpec.upto boomTurnedSpec)

end Rows
end Go.Proofs.YtppjnpempgpkaaaGreat

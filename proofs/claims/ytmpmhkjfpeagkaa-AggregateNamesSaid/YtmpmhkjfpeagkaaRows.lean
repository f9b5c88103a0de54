/-
  No cell of these rows narrows 'for every input' (looked for: loops, veiled, ifaces, maps, wideKeys, modest, calm, conditions, laid).
  DERIVED. THE GIVEN ROWS OF THIS SEAT. 7 by the template 'for every input the law returns true; each argument reads behind the call as it read before'; 0 by the template 'total and deterministic' (their statements: YtmpmhkjfpeagkaaTotals.lean).
  GIVEN WITH THE SEED: the statements are not yours to turn. If you find one false, say at which input.
  Laid BY PROGRAM, IN A SANDBOX (cutbox-rows.mjs): the forced cells as the released guide's own fill.sh prints them over the translation 99fd93340371ce7c… (all of the seat's roots in one cut). By AI agents, Wed Nov 11 2026. No macro, syntax, notation, axiom, sorry.
-/
import Derived.Test.YtmpmhkjfpeagkaaChecked
import GoSem.Claim
import GoSem.ClaimJoined
import GoSem.ClaimMapViews
import Derived.JoinedTies
import Derived.KernelRfl
namespace Go.Proofs.Ytmpmhkjfpeagkaa
/- THE CELL 'sum', in the pinned program and in every row, IS THE sha256 OF THE DUMP (.gsa) THAT YtmpmhkjfpeagkaaProg.lean LOADS. Nothing in Lean hashes anything: it is a label: what it is worth is what the hold of that sum in a sandbox is worth. -/
noncomputable def Try.pinned : Pinned := { name := "ytmpmhkjfpeagkaa", sum := "99fd93340371ce7c8e61e390a956b730e397a38f7de0e5f291852aaf1fcd74f9", checked := Try.checked }
namespace Rows
def none {H : Type} : Left H := { results := [], args := [] }

/-- 'hotspotlaw08.AggregateNames': WHATEVER THE INPUT: true; the input reads as it did. -/
def aggregateNamesSpec : ChangeSpec := { name := "aggregateNames", fn := fun _ => fun
  | [] => { results := [.lit (.bool true)], args := [] }
  | _ => none }
def aggregateNamesRow : OpenClaim := { program := "ytmpmhkjfpeagkaa", sum := "99fd93340371ce7c8e61e390a956b730e397a38f7de0e5f291852aaf1fcd74f9", func := "hotspot/hotspotlaw08.AggregateNames", spec := "aggregateNames", unfollowed := true, recurses := true, apart := false }
def AggregateNamesSaid : Prop := aggregateNamesRow.holds Try.pinned (OpenSpec.ofChange aggregateNamesSpec)

/-- ITS FALSE NEIGHBOUR: 'it returns false'. Refute it at one input. -/
def aggregateNamesWrong : ChangeSpec := { name := "aggregateNames", fn := fun _ => fun
  | [] => { results := [.lit (.bool false)], args := [] }
  | _ => none }
def AggregateNamesWrongFalsely : Prop := aggregateNamesRow.holds Try.pinned (OpenSpec.ofChange aggregateNamesWrong)

/-- 'hotspotlaw08.AggregatePacks': WHATEVER THE INPUT: true; the input reads as it did. -/
def aggregatePacksSpec : ChangeSpec := { name := "aggregatePacks", fn := fun _ => fun
  | [d1, d2, d3] => { results := [.lit (.bool true)], args := [d1, d2, d3] }
  | _ => none }
def aggregatePacksRow : OpenClaim := { program := "ytmpmhkjfpeagkaa", sum := "99fd93340371ce7c8e61e390a956b730e397a38f7de0e5f291852aaf1fcd74f9", func := "hotspot/hotspotlaw08.AggregatePacks", spec := "aggregatePacks", unfollowed := true, recurses := true, apart := false }
def AggregatePacksSaid : Prop := aggregatePacksRow.holds Try.pinned (OpenSpec.ofChange aggregatePacksSpec)

/-- ITS FALSE NEIGHBOUR: 'it returns false'. Refute it at one input. -/
def aggregatePacksWrong : ChangeSpec := { name := "aggregatePacks", fn := fun _ => fun
  | [d1, d2, d3] => { results := [.lit (.bool false)], args := [d1, d2, d3] }
  | _ => none }
def AggregatePacksWrongFalsely : Prop := aggregatePacksRow.holds Try.pinned (OpenSpec.ofChange aggregatePacksWrong)

/-- 'hotspotlaw08.AggregateBack': WHATEVER THE INPUT: true; the input reads as it did. -/
def aggregateBackSpec : ChangeSpec := { name := "aggregateBack", fn := fun _ => fun
  | [d1, d2] => { results := [.lit (.bool true)], args := [d1, d2] }
  | _ => none }
def aggregateBackRow : OpenClaim := { program := "ytmpmhkjfpeagkaa", sum := "99fd93340371ce7c8e61e390a956b730e397a38f7de0e5f291852aaf1fcd74f9", func := "hotspot/hotspotlaw08.AggregateBack", spec := "aggregateBack", unfollowed := true, recurses := true, apart := false }
def AggregateBackSaid : Prop := aggregateBackRow.holds Try.pinned (OpenSpec.ofChange aggregateBackSpec)

/-- ITS FALSE NEIGHBOUR: 'it returns false'. Refute it at one input. -/
def aggregateBackWrong : ChangeSpec := { name := "aggregateBack", fn := fun _ => fun
  | [d1, d2] => { results := [.lit (.bool false)], args := [d1, d2] }
  | _ => none }
def AggregateBackWrongFalsely : Prop := aggregateBackRow.holds Try.pinned (OpenSpec.ofChange aggregateBackWrong)

/-- 'hotspotlaw08.AggregateWhole': WHATEVER THE INPUT: true; the input reads as it did. -/
def aggregateWholeSpec : ChangeSpec := { name := "aggregateWhole", fn := fun _ => fun
  | [d] => { results := [.lit (.bool true)], args := [d] }
  | _ => none }
def aggregateWholeRow : OpenClaim := { program := "ytmpmhkjfpeagkaa", sum := "99fd93340371ce7c8e61e390a956b730e397a38f7de0e5f291852aaf1fcd74f9", func := "hotspot/hotspotlaw08.AggregateWhole", spec := "aggregateWhole", unfollowed := true, recurses := true, apart := false }
def AggregateWholeSaid : Prop := aggregateWholeRow.holds Try.pinned (OpenSpec.ofChange aggregateWholeSpec)

/-- ITS FALSE NEIGHBOUR: 'it returns false'. Refute it at one input. -/
def aggregateWholeWrong : ChangeSpec := { name := "aggregateWhole", fn := fun _ => fun
  | [d] => { results := [.lit (.bool false)], args := [d] }
  | _ => none }
def AggregateWholeWrongFalsely : Prop := aggregateWholeRow.holds Try.pinned (OpenSpec.ofChange aggregateWholeWrong)

/-- 'hotspotlaw08.AggregateDamage': WHATEVER THE INPUT: true; the input reads as it did. -/
def aggregateDamageSpec : ChangeSpec := { name := "aggregateDamage", fn := fun _ => fun
  | [d1, d2, d3, d4] => { results := [.lit (.bool true)], args := [d1, d2, d3, d4] }
  | _ => none }
def aggregateDamageRow : OpenClaim := { program := "ytmpmhkjfpeagkaa", sum := "99fd93340371ce7c8e61e390a956b730e397a38f7de0e5f291852aaf1fcd74f9", func := "hotspot/hotspotlaw08.AggregateDamage", spec := "aggregateDamage", unfollowed := true, recurses := true, apart := false }
def AggregateDamageSaid : Prop := aggregateDamageRow.holds Try.pinned (OpenSpec.ofChange aggregateDamageSpec)

/-- ITS FALSE NEIGHBOUR: 'it returns false'. Refute it at one input. -/
def aggregateDamageWrong : ChangeSpec := { name := "aggregateDamage", fn := fun _ => fun
  | [d1, d2, d3, d4] => { results := [.lit (.bool false)], args := [d1, d2, d3, d4] }
  | _ => none }
def AggregateDamageWrongFalsely : Prop := aggregateDamageRow.holds Try.pinned (OpenSpec.ofChange aggregateDamageWrong)

/-- 'hotspotlaw08.AggregateFront': WHATEVER THE INPUT: true; the input reads as it did. -/
def aggregateFrontSpec : ChangeSpec := { name := "aggregateFront", fn := fun _ => fun
  | [d1, d2, d3] => { results := [.lit (.bool true)], args := [d1, d2, d3] }
  | _ => none }
def aggregateFrontRow : OpenClaim := { program := "ytmpmhkjfpeagkaa", sum := "99fd93340371ce7c8e61e390a956b730e397a38f7de0e5f291852aaf1fcd74f9", func := "hotspot/hotspotlaw08.AggregateFront", spec := "aggregateFront", unfollowed := true, recurses := true, apart := false }
def AggregateFrontSaid : Prop := aggregateFrontRow.holds Try.pinned (OpenSpec.ofChange aggregateFrontSpec)

/-- ITS FALSE NEIGHBOUR: 'it returns false'. Refute it at one input. -/
def aggregateFrontWrong : ChangeSpec := { name := "aggregateFront", fn := fun _ => fun
  | [d1, d2, d3] => { results := [.lit (.bool false)], args := [d1, d2, d3] }
  | _ => none }
def AggregateFrontWrongFalsely : Prop := aggregateFrontRow.holds Try.pinned (OpenSpec.ofChange aggregateFrontWrong)

/-- 'hotspotlaw08.AggregateLost': WHATEVER THE INPUT: true; the input reads as it did. -/
def aggregateLostSpec : ChangeSpec := { name := "aggregateLost", fn := fun _ => fun
  | [d1, d2, d3] => { results := [.lit (.bool true)], args := [d1, d2, d3] }
  | _ => none }
def aggregateLostRow : OpenClaim := { program := "ytmpmhkjfpeagkaa", sum := "99fd93340371ce7c8e61e390a956b730e397a38f7de0e5f291852aaf1fcd74f9", func := "hotspot/hotspotlaw08.AggregateLost", spec := "aggregateLost", unfollowed := true, recurses := true, apart := false }
def AggregateLostSaid : Prop := aggregateLostRow.holds Try.pinned (OpenSpec.ofChange aggregateLostSpec)

/-- ITS FALSE NEIGHBOUR: 'it returns false'. Refute it at one input. -/
def aggregateLostWrong : ChangeSpec := { name := "aggregateLost", fn := fun _ => fun
  | [d1, d2, d3] => { results := [.lit (.bool false)], args := [d1, d2, d3] }
  | _ => none }
def AggregateLostWrongFalsely : Prop := aggregateLostRow.holds Try.pinned (OpenSpec.ofChange aggregateLostWrong)

/- THE SECOND FORM. 'bulk': how many values and letters a reading holds, each counted each time it is reached (what is shared counts as often as it is met; a slice's spare places count too). A statement '..UptoSaid' is the law's where the arguments, and the package variables that the reading takes, are together of bulk at most 1048576: NARROWER than '..Said'. Prove '..Said' where nothing that the law and all that it calls make is longer than what came in: it says more and counts as full. Else prove '..UptoSaid'. A law counts once. -/
mutual
def uptoBulk {H : Type} : DataW H → Nat
  | .lit (.string bytes) => bytes.length + 1
  | .lit _ => 1
  | .nil => 1
  | .ptr d => uptoBulk d + 1
  | .slice elems spare => uptoBulkAll elems + uptoBulkAll spare + 1
  | .agg parts => uptoBulkAll parts + 1
  | .iface _ d => uptoBulk d + 1
  | .map entries => uptoBulkEntries entries + 1
  | .held _ => 1
def uptoBulkAll {H : Type} : List (DataW H) → Nat
  | [] => 0
  | d :: r => uptoBulk d + uptoBulkAll r
def uptoBulkEntries {H : Type} : List (Lit × DataW H) → Nat
  | [] => 0
  | x :: r => uptoBulkEntry x + uptoBulkEntries r
def uptoBulkEntry {H : Type} : Lit × DataW H → Nat
  | (.string bytes, d) => bytes.length + uptoBulk d + 1
  | (_, d) => uptoBulk d + 1
 end
def uptoSmall : (H : Type) → List (DataW H) → Bool := fun _ ds => decide (uptoBulkAll ds ≤ 1048576)
def OpenSpec.upto (s : _root_.Go.ChangeSpec) : _root_.Go.OpenSpec := { _root_.Go.OpenSpec.ofChange s with cond := some uptoSmall }

/-- 'hotspotlaw08.AggregateNames', WHERE WHAT IT READS IS OF BULK AT MOST 1048576: true; the input reads as it did. -/
def aggregateNamesUptoRow : OpenClaim := { program := "ytmpmhkjfpeagkaa", sum := "99fd93340371ce7c8e61e390a956b730e397a38f7de0e5f291852aaf1fcd74f9", func := "hotspot/hotspotlaw08.AggregateNames", spec := "aggregateNames", unfollowed := true, recurses := true, apart := false, narrowed := true }
def AggregateNamesUptoSaid : Prop := aggregateNamesUptoRow.holds Try.pinned (OpenSpec.upto aggregateNamesSpec)

/-- 'hotspotlaw08.AggregatePacks', WHERE WHAT IT READS IS OF BULK AT MOST 1048576: true; the input reads as it did. -/
def aggregatePacksUptoRow : OpenClaim := { program := "ytmpmhkjfpeagkaa", sum := "99fd93340371ce7c8e61e390a956b730e397a38f7de0e5f291852aaf1fcd74f9", func := "hotspot/hotspotlaw08.AggregatePacks", spec := "aggregatePacks", unfollowed := true, recurses := true, apart := false, narrowed := true }
def AggregatePacksUptoSaid : Prop := aggregatePacksUptoRow.holds Try.pinned (OpenSpec.upto aggregatePacksSpec)

/-- 'hotspotlaw08.AggregateBack', WHERE WHAT IT READS IS OF BULK AT MOST 1048576: true; the input reads as it did. -/
def aggregateBackUptoRow : OpenClaim := { program := "ytmpmhkjfpeagkaa", sum := "99fd93340371ce7c8e61e390a956b730e397a38f7de0e5f291852aaf1fcd74f9", func := "hotspot/hotspotlaw08.AggregateBack", spec := "aggregateBack", unfollowed := true, recurses := true, apart := false, narrowed := true }
def AggregateBackUptoSaid : Prop := aggregateBackUptoRow.holds Try.pinned (OpenSpec.upto aggregateBackSpec)

/-- 'hotspotlaw08.AggregateWhole', WHERE WHAT IT READS IS OF BULK AT MOST 1048576: true; the input reads as it did. -/
def aggregateWholeUptoRow : OpenClaim := { program := "ytmpmhkjfpeagkaa", sum := "99fd93340371ce7c8e61e390a956b730e397a38f7de0e5f291852aaf1fcd74f9", func := "hotspot/hotspotlaw08.AggregateWhole", spec := "aggregateWhole", unfollowed := true, recurses := true, apart := false, narrowed := true }
def AggregateWholeUptoSaid : Prop := aggregateWholeUptoRow.holds Try.pinned (OpenSpec.upto aggregateWholeSpec)

/-- 'hotspotlaw08.AggregateDamage', WHERE WHAT IT READS IS OF BULK AT MOST 1048576: true; the input reads as it did. -/
def aggregateDamageUptoRow : OpenClaim := { program := "ytmpmhkjfpeagkaa", sum := "99fd93340371ce7c8e61e390a956b730e397a38f7de0e5f291852aaf1fcd74f9", func := "hotspot/hotspotlaw08.AggregateDamage", spec := "aggregateDamage", unfollowed := true, recurses := true, apart := false, narrowed := true }
def AggregateDamageUptoSaid : Prop := aggregateDamageUptoRow.holds Try.pinned (OpenSpec.upto aggregateDamageSpec)

/-- 'hotspotlaw08.AggregateFront', WHERE WHAT IT READS IS OF BULK AT MOST 1048576: true; the input reads as it did. -/
def aggregateFrontUptoRow : OpenClaim := { program := "ytmpmhkjfpeagkaa", sum := "99fd93340371ce7c8e61e390a956b730e397a38f7de0e5f291852aaf1fcd74f9", func := "hotspot/hotspotlaw08.AggregateFront", spec := "aggregateFront", unfollowed := true, recurses := true, apart := false, narrowed := true }
def AggregateFrontUptoSaid : Prop := aggregateFrontUptoRow.holds Try.pinned (OpenSpec.upto aggregateFrontSpec)

/-- 'hotspotlaw08.AggregateLost', WHERE WHAT IT READS IS OF BULK AT MOST 1048576: true; the input reads as it did. -/
def aggregateLostUptoRow : OpenClaim := { program := "ytmpmhkjfpeagkaa", sum := "99fd93340371ce7c8e61e390a956b730e397a38f7de0e5f291852aaf1fcd74f9", func := "hotspot/hotspotlaw08.AggregateLost", spec := "aggregateLost", unfollowed := true, recurses := true, apart := false, narrowed := true }
def AggregateLostUptoSaid : Prop := aggregateLostUptoRow.holds Try.pinned (OpenSpec.upto aggregateLostSpec)

end Rows
end Go.Proofs.Ytmpmhkjfpeagkaa

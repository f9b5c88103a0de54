/-
  No cell of these rows narrows 'for every input' (looked for: loops, veiled, ifaces, maps, wideKeys, modest, calm, conditions, laid).
  DERIVED. THE GIVEN ROWS OF THIS SEAT. 12 by the template 'for every input the law returns true; each argument reads behind the call as it read before'; 0 by the template 'total and deterministic' (their statements: YteeecgnaakcnnaaTotals.lean).
  GIVEN WITH THE SEED: the statements are not yours to turn. If you find one false, say at which input.
  Laid BY PROGRAM, IN A SANDBOX (cutbox-rows.mjs): the forced cells as the released guide's own fill.sh prints them over the translation a920f0f4c35ea59d… (all of the seat's roots in one cut). By AI agents, Wed Nov 11 2026. No macro, syntax, notation, axiom, sorry.
-/
import Derived.Test.YteeecgnaakcnnaaChecked
import GoSem.Claim
import GoSem.ClaimJoined
import GoSem.ClaimMapViews
import Derived.JoinedTies
import Derived.KernelRfl
namespace Go.Proofs.Yteeecgnaakcnnaa
/- THE CELL 'sum', in the pinned program and in every row, IS THE sha256 OF THE DUMP (.gsa) THAT YteeecgnaakcnnaaProg.lean LOADS. Nothing in Lean hashes anything: it is a label: what it is worth is what the hold of that sum in a sandbox is worth. -/
noncomputable def Try.pinned : Pinned := { name := "yteeecgnaakcnnaa", sum := "a920f0f4c35ea59d087f5099f3694cd6e08e6c924038e4ace02025538b900aea", checked := Try.checked }
namespace Rows
def none {H : Type} : Left H := { results := [], args := [] }

/-- 'hotspotlaw01.OctetNames': WHATEVER THE INPUT: true; the input reads as it did. -/
def octetNamesSpec : ChangeSpec := { name := "octetNames", fn := fun _ => fun
  | [] => { results := [.lit (.bool true)], args := [] }
  | _ => none }
def octetNamesRow : OpenClaim := { program := "yteeecgnaakcnnaa", sum := "a920f0f4c35ea59d087f5099f3694cd6e08e6c924038e4ace02025538b900aea", func := "hotspot/hotspotlaw01.OctetNames", spec := "octetNames", unfollowed := true, recurses := true, apart := false }
def OctetNamesSaid : Prop := octetNamesRow.holds Try.pinned (OpenSpec.ofChange octetNamesSpec)

/-- ITS FALSE NEIGHBOUR: 'it returns false'. Refute it at one input. -/
def octetNamesWrong : ChangeSpec := { name := "octetNames", fn := fun _ => fun
  | [] => { results := [.lit (.bool false)], args := [] }
  | _ => none }
def OctetNamesWrongFalsely : Prop := octetNamesRow.holds Try.pinned (OpenSpec.ofChange octetNamesWrong)

/-- 'hotspotlaw01.OctetReads': WHATEVER THE INPUT: true; the input reads as it did. -/
def octetReadsSpec : ChangeSpec := { name := "octetReads", fn := fun _ => fun
  | [d1, d2] => { results := [.lit (.bool true)], args := [d1, d2] }
  | _ => none }
def octetReadsRow : OpenClaim := { program := "yteeecgnaakcnnaa", sum := "a920f0f4c35ea59d087f5099f3694cd6e08e6c924038e4ace02025538b900aea", func := "hotspot/hotspotlaw01.OctetReads", spec := "octetReads", apart := false }
def OctetReadsSaid : Prop := octetReadsRow.holds Try.pinned (OpenSpec.ofChange octetReadsSpec)

/-- ITS FALSE NEIGHBOUR: 'it returns false'. Refute it at one input. -/
def octetReadsWrong : ChangeSpec := { name := "octetReads", fn := fun _ => fun
  | [d1, d2] => { results := [.lit (.bool false)], args := [d1, d2] }
  | _ => none }
def OctetReadsWrongFalsely : Prop := octetReadsRow.holds Try.pinned (OpenSpec.ofChange octetReadsWrong)

/-- 'hotspotlaw01.OctetWrites': WHATEVER THE INPUT: true; the input reads as it did. -/
def octetWritesSpec : ChangeSpec := { name := "octetWrites", fn := fun _ => fun
  | [d1, d2, d3, d4] => { results := [.lit (.bool true)], args := [d1, d2, d3, d4] }
  | _ => none }
def octetWritesRow : OpenClaim := { program := "yteeecgnaakcnnaa", sum := "a920f0f4c35ea59d087f5099f3694cd6e08e6c924038e4ace02025538b900aea", func := "hotspot/hotspotlaw01.OctetWrites", spec := "octetWrites", unfollowed := true, recurses := true, apart := false }
def OctetWritesSaid : Prop := octetWritesRow.holds Try.pinned (OpenSpec.ofChange octetWritesSpec)

/-- ITS FALSE NEIGHBOUR: 'it returns false'. Refute it at one input. -/
def octetWritesWrong : ChangeSpec := { name := "octetWrites", fn := fun _ => fun
  | [d1, d2, d3, d4] => { results := [.lit (.bool false)], args := [d1, d2, d3, d4] }
  | _ => none }
def OctetWritesWrongFalsely : Prop := octetWritesRow.holds Try.pinned (OpenSpec.ofChange octetWritesWrong)

/-- 'hotspotlaw01.OctetBits': WHATEVER THE INPUT: true; the input reads as it did. -/
def octetBitsSpec : ChangeSpec := { name := "octetBits", fn := fun _ => fun
  | [d1, d2, d3, d4] => { results := [.lit (.bool true)], args := [d1, d2, d3, d4] }
  | _ => none }
def octetBitsRow : OpenClaim := { program := "yteeecgnaakcnnaa", sum := "a920f0f4c35ea59d087f5099f3694cd6e08e6c924038e4ace02025538b900aea", func := "hotspot/hotspotlaw01.OctetBits", spec := "octetBits", apart := false }
def OctetBitsSaid : Prop := octetBitsRow.holds Try.pinned (OpenSpec.ofChange octetBitsSpec)

/-- ITS FALSE NEIGHBOUR: 'it returns false'. Refute it at one input. -/
def octetBitsWrong : ChangeSpec := { name := "octetBits", fn := fun _ => fun
  | [d1, d2, d3, d4] => { results := [.lit (.bool false)], args := [d1, d2, d3, d4] }
  | _ => none }
def OctetBitsWrongFalsely : Prop := octetBitsRow.holds Try.pinned (OpenSpec.ofChange octetBitsWrong)

/-- 'hotspotlaw01.OctetBack': WHATEVER THE INPUT: true; the input reads as it did. -/
def octetBackSpec : ChangeSpec := { name := "octetBack", fn := fun _ => fun
  | [d] => { results := [.lit (.bool true)], args := [d] }
  | _ => none }
def octetBackRow : OpenClaim := { program := "yteeecgnaakcnnaa", sum := "a920f0f4c35ea59d087f5099f3694cd6e08e6c924038e4ace02025538b900aea", func := "hotspot/hotspotlaw01.OctetBack", spec := "octetBack", apart := false }
def OctetBackSaid : Prop := octetBackRow.holds Try.pinned (OpenSpec.ofChange octetBackSpec)

/-- ITS FALSE NEIGHBOUR: 'it returns false'. Refute it at one input. -/
def octetBackWrong : ChangeSpec := { name := "octetBack", fn := fun _ => fun
  | [d] => { results := [.lit (.bool false)], args := [d] }
  | _ => none }
def OctetBackWrongFalsely : Prop := octetBackRow.holds Try.pinned (OpenSpec.ofChange octetBackWrong)

/-- 'hotspotlaw01.OctetFields': WHATEVER THE INPUT: true; the input reads as it did. -/
def octetFieldsSpec : ChangeSpec := { name := "octetFields", fn := fun _ => fun
  | [d1, d2] => { results := [.lit (.bool true)], args := [d1, d2] }
  | _ => none }
def octetFieldsRow : OpenClaim := { program := "yteeecgnaakcnnaa", sum := "a920f0f4c35ea59d087f5099f3694cd6e08e6c924038e4ace02025538b900aea", func := "hotspot/hotspotlaw01.OctetFields", spec := "octetFields", unfollowed := true, recurses := true, apart := false }
def OctetFieldsSaid : Prop := octetFieldsRow.holds Try.pinned (OpenSpec.ofChange octetFieldsSpec)

/-- ITS FALSE NEIGHBOUR: 'it returns false'. Refute it at one input. -/
def octetFieldsWrong : ChangeSpec := { name := "octetFields", fn := fun _ => fun
  | [d1, d2] => { results := [.lit (.bool false)], args := [d1, d2] }
  | _ => none }
def OctetFieldsWrongFalsely : Prop := octetFieldsRow.holds Try.pinned (OpenSpec.ofChange octetFieldsWrong)

/-- 'hotspotlaw01.OctetPrefix': WHATEVER THE INPUT: true; the input reads as it did. -/
def octetPrefixSpec : ChangeSpec := { name := "octetPrefix", fn := fun _ => fun
  | [d1, d2, d3, d4] => { results := [.lit (.bool true)], args := [d1, d2, d3, d4] }
  | _ => none }
def octetPrefixRow : OpenClaim := { program := "yteeecgnaakcnnaa", sum := "a920f0f4c35ea59d087f5099f3694cd6e08e6c924038e4ace02025538b900aea", func := "hotspot/hotspotlaw01.OctetPrefix", spec := "octetPrefix", apart := false }
def OctetPrefixSaid : Prop := octetPrefixRow.holds Try.pinned (OpenSpec.ofChange octetPrefixSpec)

/-- ITS FALSE NEIGHBOUR: 'it returns false'. Refute it at one input. -/
def octetPrefixWrong : ChangeSpec := { name := "octetPrefix", fn := fun _ => fun
  | [d1, d2, d3, d4] => { results := [.lit (.bool false)], args := [d1, d2, d3, d4] }
  | _ => none }
def OctetPrefixWrongFalsely : Prop := octetPrefixRow.holds Try.pinned (OpenSpec.ofChange octetPrefixWrong)

/-- 'hotspotlaw01.OctetParts': WHATEVER THE INPUT: true; the input reads as it did. -/
def octetPartsSpec : ChangeSpec := { name := "octetParts", fn := fun _ => fun
  | [d1, d2, d3, d4, d5, d6] => { results := [.lit (.bool true)], args := [d1, d2, d3, d4, d5, d6] }
  | _ => none }
def octetPartsRow : OpenClaim := { program := "yteeecgnaakcnnaa", sum := "a920f0f4c35ea59d087f5099f3694cd6e08e6c924038e4ace02025538b900aea", func := "hotspot/hotspotlaw01.OctetParts", spec := "octetParts", apart := false }
def OctetPartsSaid : Prop := octetPartsRow.holds Try.pinned (OpenSpec.ofChange octetPartsSpec)

/-- ITS FALSE NEIGHBOUR: 'it returns false'. Refute it at one input. -/
def octetPartsWrong : ChangeSpec := { name := "octetParts", fn := fun _ => fun
  | [d1, d2, d3, d4, d5, d6] => { results := [.lit (.bool false)], args := [d1, d2, d3, d4, d5, d6] }
  | _ => none }
def OctetPartsWrongFalsely : Prop := octetPartsRow.holds Try.pinned (OpenSpec.ofChange octetPartsWrong)

/-- 'hotspotlaw02.AddressNames': WHATEVER THE INPUT: true; the input reads as it did. -/
def addressNamesSpec : ChangeSpec := { name := "addressNames", fn := fun _ => fun
  | [] => { results := [.lit (.bool true)], args := [] }
  | _ => none }
def addressNamesRow : OpenClaim := { program := "yteeecgnaakcnnaa", sum := "a920f0f4c35ea59d087f5099f3694cd6e08e6c924038e4ace02025538b900aea", func := "hotspot/hotspotlaw02.AddressNames", spec := "addressNames", unfollowed := true, recurses := true, apart := false }
def AddressNamesSaid : Prop := addressNamesRow.holds Try.pinned (OpenSpec.ofChange addressNamesSpec)

/-- ITS FALSE NEIGHBOUR: 'it returns false'. Refute it at one input. -/
def addressNamesWrong : ChangeSpec := { name := "addressNames", fn := fun _ => fun
  | [] => { results := [.lit (.bool false)], args := [] }
  | _ => none }
def AddressNamesWrongFalsely : Prop := addressNamesRow.holds Try.pinned (OpenSpec.ofChange addressNamesWrong)

/-- 'hotspotlaw02.AddressTells': WHATEVER THE INPUT: true; the input reads as it did. -/
def addressTellsSpec : ChangeSpec := { name := "addressTells", fn := fun _ => fun
  | [d1, d2, d3, d4, d5] => { results := [.lit (.bool true)], args := [d1, d2, d3, d4, d5] }
  | _ => none }
def addressTellsRow : OpenClaim := { program := "yteeecgnaakcnnaa", sum := "a920f0f4c35ea59d087f5099f3694cd6e08e6c924038e4ace02025538b900aea", func := "hotspot/hotspotlaw02.AddressTells", spec := "addressTells", apart := false }
def AddressTellsSaid : Prop := addressTellsRow.holds Try.pinned (OpenSpec.ofChange addressTellsSpec)

/-- ITS FALSE NEIGHBOUR: 'it returns false'. Refute it at one input. -/
def addressTellsWrong : ChangeSpec := { name := "addressTells", fn := fun _ => fun
  | [d1, d2, d3, d4, d5] => { results := [.lit (.bool false)], args := [d1, d2, d3, d4, d5] }
  | _ => none }
def AddressTellsWrongFalsely : Prop := addressTellsRow.holds Try.pinned (OpenSpec.ofChange addressTellsWrong)

/-- 'hotspotlaw02.AddressSets': WHATEVER THE INPUT: true; the input reads as it did. -/
def addressSetsSpec : ChangeSpec := { name := "addressSets", fn := fun _ => fun
  | [d1, d2, d3] => { results := [.lit (.bool true)], args := [d1, d2, d3] }
  | _ => none }
def addressSetsRow : OpenClaim := { program := "yteeecgnaakcnnaa", sum := "a920f0f4c35ea59d087f5099f3694cd6e08e6c924038e4ace02025538b900aea", func := "hotspot/hotspotlaw02.AddressSets", spec := "addressSets", unfollowed := true, recurses := true, apart := false }
def AddressSetsSaid : Prop := addressSetsRow.holds Try.pinned (OpenSpec.ofChange addressSetsSpec)

/-- ITS FALSE NEIGHBOUR: 'it returns false'. Refute it at one input. -/
def addressSetsWrong : ChangeSpec := { name := "addressSets", fn := fun _ => fun
  | [d1, d2, d3] => { results := [.lit (.bool false)], args := [d1, d2, d3] }
  | _ => none }
def AddressSetsWrongFalsely : Prop := addressSetsRow.holds Try.pinned (OpenSpec.ofChange addressSetsWrong)

/-- 'hotspotlaw02.AddressText': WHATEVER THE INPUT: true; the input reads as it did. -/
def addressTextSpec : ChangeSpec := { name := "addressText", fn := fun _ => fun
  | [d1, d2, d3] => { results := [.lit (.bool true)], args := [d1, d2, d3] }
  | _ => none }
def addressTextRow : OpenClaim := { program := "yteeecgnaakcnnaa", sum := "a920f0f4c35ea59d087f5099f3694cd6e08e6c924038e4ace02025538b900aea", func := "hotspot/hotspotlaw02.AddressText", spec := "addressText", apart := false }
def AddressTextSaid : Prop := addressTextRow.holds Try.pinned (OpenSpec.ofChange addressTextSpec)

/-- ITS FALSE NEIGHBOUR: 'it returns false'. Refute it at one input. -/
def addressTextWrong : ChangeSpec := { name := "addressText", fn := fun _ => fun
  | [d1, d2, d3] => { results := [.lit (.bool false)], args := [d1, d2, d3] }
  | _ => none }
def AddressTextWrongFalsely : Prop := addressTextRow.holds Try.pinned (OpenSpec.ofChange addressTextWrong)

/- THE SECOND FORM. 'bulk': how many values and letters a reading holds, each counted each time it is reached (what is shared counts as often as it is met; a slice's spare places count too). A statement '..UptoSaid' is the law's where the arguments, and the package variables that the reading takes, are together of bulk at most 1048576: NARROWER than '..Said'. Prove '..Said' where nothing that the law and all that it calls make is longer than what came in: it says more and counts as full. Else prove '..UptoSaid'. A law counts once. -/
mutual
def uptoBulk {H : Type} : DataW H → Nat
  | .lit (.string bytes) => bytes.length + 1
  | .lit _ => 1
  | .nil => 1
  | .ptr d => uptoBulk d + 1
  | .slice elems spare => uptoBulkAll elems + uptoBulkAll spare + 1
  | .agg parts => uptoBulkAll parts + 1
  | .iface _ d => uptoBulk d + 1
  | .map entries => uptoBulkEntries entries + 1
  | .held _ => 1
def uptoBulkAll {H : Type} : List (DataW H) → Nat
  | [] => 0
  | d :: r => uptoBulk d + uptoBulkAll r
def uptoBulkEntries {H : Type} : List (Lit × DataW H) → Nat
  | [] => 0
  | x :: r => uptoBulkEntry x + uptoBulkEntries r
def uptoBulkEntry {H : Type} : Lit × DataW H → Nat
  | (.string bytes, d) => bytes.length + uptoBulk d + 1
  | (_, d) => uptoBulk d + 1
 end
def uptoSmall : (H : Type) → List (DataW H) → Bool := fun _ ds => decide (uptoBulkAll ds ≤ 1048576)
def OpenSpec.upto (s : _root_.Go.ChangeSpec) : _root_.Go.OpenSpec := { _root_.Go.OpenSpec.ofChange s with cond := some uptoSmall }

/-- 'hotspotlaw01.OctetNames', WHERE WHAT IT READS IS OF BULK AT MOST 1048576: true; the input reads as it did. -/
def octetNamesUptoRow : OpenClaim := { program := "yteeecgnaakcnnaa", sum := "a920f0f4c35ea59d087f5099f3694cd6e08e6c924038e4ace02025538b900aea", func := "hotspot/hotspotlaw01.OctetNames", spec := "octetNames", unfollowed := true, recurses := true, apart := false, narrowed := true }
def OctetNamesUptoSaid : Prop := octetNamesUptoRow.holds Try.pinned (OpenSpec.upto octetNamesSpec)

/-- 'hotspotlaw01.OctetReads', WHERE WHAT IT READS IS OF BULK AT MOST 1048576: true; the input reads as it did. -/
def octetReadsUptoRow : OpenClaim := { program := "yteeecgnaakcnnaa", sum := "a920f0f4c35ea59d087f5099f3694cd6e08e6c924038e4ace02025538b900aea", func := "hotspot/hotspotlaw01.OctetReads", spec := "octetReads", apart := false, narrowed := true }
def OctetReadsUptoSaid : Prop := octetReadsUptoRow.holds Try.pinned (OpenSpec.upto octetReadsSpec)

/-- 'hotspotlaw01.OctetWrites', WHERE WHAT IT READS IS OF BULK AT MOST 1048576: true; the input reads as it did. -/
def octetWritesUptoRow : OpenClaim := { program := "yteeecgnaakcnnaa", sum := "a920f0f4c35ea59d087f5099f3694cd6e08e6c924038e4ace02025538b900aea", func := "hotspot/hotspotlaw01.OctetWrites", spec := "octetWrites", unfollowed := true, recurses := true, apart := false, narrowed := true }
def OctetWritesUptoSaid : Prop := octetWritesUptoRow.holds Try.pinned (OpenSpec.upto octetWritesSpec)

/-- 'hotspotlaw01.OctetBits', WHERE WHAT IT READS IS OF BULK AT MOST 1048576: true; the input reads as it did. -/
def octetBitsUptoRow : OpenClaim := { program := "yteeecgnaakcnnaa", sum := "a920f0f4c35ea59d087f5099f3694cd6e08e6c924038e4ace02025538b900aea", func := "hotspot/hotspotlaw01.OctetBits", spec := "octetBits", apart := false, narrowed := true }
def OctetBitsUptoSaid : Prop := octetBitsUptoRow.holds Try.pinned (OpenSpec.upto octetBitsSpec)

/-- 'hotspotlaw01.OctetBack', WHERE WHAT IT READS IS OF BULK AT MOST 1048576: true; the input reads as it did. -/
def octetBackUptoRow : OpenClaim := { program := "yteeecgnaakcnnaa", sum := "a920f0f4c35ea59d087f5099f3694cd6e08e6c924038e4ace02025538b900aea", func := "hotspot/hotspotlaw01.OctetBack", spec := "octetBack", apart := false, narrowed := true }
def OctetBackUptoSaid : Prop := octetBackUptoRow.holds Try.pinned (OpenSpec.upto octetBackSpec)

/-- 'hotspotlaw01.OctetFields', WHERE WHAT IT READS IS OF BULK AT MOST 1048576: true; the input reads as it did. -/
def octetFieldsUptoRow : OpenClaim := { program := "yteeecgnaakcnnaa", sum := "a920f0f4c35ea59d087f5099f3694cd6e08e6c924038e4ace02025538b900aea", func := "hotspot/hotspotlaw01.OctetFields", spec := "octetFields", unfollowed := true, recurses := true, apart := false, narrowed := true }
def OctetFieldsUptoSaid : Prop := octetFieldsUptoRow.holds Try.pinned (OpenSpec.upto octetFieldsSpec)

/-- 'hotspotlaw01.OctetPrefix', WHERE WHAT IT READS IS OF BULK AT MOST 1048576: true; the input reads as it did. -/
def octetPrefixUptoRow : OpenClaim := { program := "yteeecgnaakcnnaa", sum := "a920f0f4c35ea59d087f5099f3694cd6e08e6c924038e4ace02025538b900aea", func := "hotspot/hotspotlaw01.OctetPrefix", spec := "octetPrefix", apart := false, narrowed := true }
def OctetPrefixUptoSaid : Prop := octetPrefixUptoRow.holds Try.pinned (OpenSpec.upto octetPrefixSpec)

/-- 'hotspotlaw01.OctetParts', WHERE WHAT IT READS IS OF BULK AT MOST 1048576: true; the input reads as it did. -/
def octetPartsUptoRow : OpenClaim := { program := "yteeecgnaakcnnaa", sum := "a920f0f4c35ea59d087f5099f3694cd6e08e6c924038e4ace02025538b900aea", func := "hotspot/hotspotlaw01.OctetParts", spec := "octetParts", apart := false, narrowed := true }
def OctetPartsUptoSaid : Prop := octetPartsUptoRow.holds Try.pinned (OpenSpec.upto octetPartsSpec)

/-- 'hotspotlaw02.AddressNames', WHERE WHAT IT READS IS OF BULK AT MOST 1048576: true; the input reads as it did. -/
def addressNamesUptoRow : OpenClaim := { program := "yteeecgnaakcnnaa", sum := "a920f0f4c35ea59d087f5099f3694cd6e08e6c924038e4ace02025538b900aea", func := "hotspot/hotspotlaw02.AddressNames", spec := "addressNames", unfollowed := true, recurses := true, apart := false, narrowed := true }
def AddressNamesUptoSaid : Prop := addressNamesUptoRow.holds Try.pinned (OpenSpec.upto addressNamesSpec)

/-- 'hotspotlaw02.AddressTells', WHERE WHAT IT READS IS OF BULK AT MOST 1048576: true; the input reads as it did. -/
def addressTellsUptoRow : OpenClaim := { program := "yteeecgnaakcnnaa", sum := "a920f0f4c35ea59d087f5099f3694cd6e08e6c924038e4ace02025538b900aea", func := "hotspot/hotspotlaw02.AddressTells", spec := "addressTells", apart := false, narrowed := true }
def AddressTellsUptoSaid : Prop := addressTellsUptoRow.holds Try.pinned (OpenSpec.upto addressTellsSpec)

/-- 'hotspotlaw02.AddressSets', WHERE WHAT IT READS IS OF BULK AT MOST 1048576: true; the input reads as it did. -/
def addressSetsUptoRow : OpenClaim := { program := "yteeecgnaakcnnaa", sum := "a920f0f4c35ea59d087f5099f3694cd6e08e6c924038e4ace02025538b900aea", func := "hotspot/hotspotlaw02.AddressSets", spec := "addressSets", unfollowed := true, recurses := true, apart := false, narrowed := true }
def AddressSetsUptoSaid : Prop := addressSetsUptoRow.holds Try.pinned (OpenSpec.upto addressSetsSpec)

/-- 'hotspotlaw02.AddressText', WHERE WHAT IT READS IS OF BULK AT MOST 1048576: true; the input reads as it did. -/
def addressTextUptoRow : OpenClaim := { program := "yteeecgnaakcnnaa", sum := "a920f0f4c35ea59d087f5099f3694cd6e08e6c924038e4ace02025538b900aea", func := "hotspot/hotspotlaw02.AddressText", spec := "addressText", apart := false, narrowed := true }
def AddressTextUptoSaid : Prop := addressTextUptoRow.holds Try.pinned (OpenSpec.upto addressTextSpec)

end Rows
end Go.Proofs.Yteeecgnaakcnnaa

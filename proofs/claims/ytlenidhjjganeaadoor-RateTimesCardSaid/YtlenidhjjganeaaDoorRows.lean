/-
  NARROWER THAN 'FOR EVERY INPUT', by the rows' own cells (each row's printed sentence says how): RateNames: laid · RateTable: laid · RateTimes: laid · RateMonotone: laid · RateFits: laid · RateLevels: laid · RateReplies: laid.
  DERIVED. THE GIVEN ROWS OF THIS SEAT. 7 by the template 'for every input the law returns true; each argument reads behind the call as it read before'; 0 by the template 'total and deterministic' (their statements: YtlenidhjjganeaaDoorTotals.lean).
  GIVEN WITH THE SEED: the statements are not yours to turn. If you find one false, say at which input.
  Laid BY PROGRAM, IN A SANDBOX (cutbox-rows.mjs): the forced cells as the released guide's own fill.sh prints them over the translation 30718554b18ffe77… (all of the seat's roots in one cut). By AI agents, Wed Nov 11 2026. No macro, syntax, notation, axiom, sorry.
-/
import Derived.Test.YtlenidhjjganeaaDoorChecked
import GoSem.Claim
import GoSem.ClaimJoined
import GoSem.ClaimMapViews
import Derived.JoinedTies
import Derived.KernelRfl
namespace Go.Proofs.YtlenidhjjganeaaDoor
/- THE CELL 'sum', in the pinned program and in every row, IS THE sha256 OF THE DUMP (.gsa) THAT YtlenidhjjganeaaDoorProg.lean LOADS. Nothing in Lean hashes anything: it is a label: what it is worth is what the hold of that sum in a sandbox is worth. -/
noncomputable def Tryd.pinned : Pinned := { name := "ytlenidhjjganeaadoor", sum := "30718554b18ffe771eac18fc482cf7376e5ca6f156a56fa7cef0d077a1c86646", checked := Tryd.checked }
namespace Rows
def none {H : Type} : Left H := { results := [], args := [] }

/- WHAT THE LISTED PACKAGE-LEVEL VARIABLES READ AS WHEN THE CALL BEGINS. Each datum BY PROGRAM (the guide's laid-datum.mjs) off the statement by which the dump's own 'gosem.cut.vars' lays the variable. In a bare row this is a premise. The card (YtlenidhjjganeaaDoorCards.lean) ties it to the program's text. -/
def laid_hotspot_rate_table {H : Type} : DataW H := .agg [.agg [.lit (.int .i64 24), .lit (.int .i64 (-820)), .lit (.bool true)], .agg [.lit (.int .i64 36), .lit (.int .i64 (-808)), .lit (.bool false)], .agg [.lit (.int .i64 48), .lit (.int .i64 (-788)), .lit (.bool true)], .agg [.lit (.int .i64 72), .lit (.int .i64 (-768)), .lit (.bool false)], .agg [.lit (.int .i64 100), .lit (.int .i64 (-738)), .lit (.bool true)], .agg [.lit (.int .i64 148), .lit (.int .i64 (-702)), .lit (.bool false)], .agg [.lit (.int .i64 196), .lit (.int .i64 (-664)), .lit (.bool false)], .agg [.lit (.int .i64 220), .lit (.int .i64 (-652)), .lit (.bool false)], .agg [.lit (.int .i64 264), .lit (.int .i64 (-640)), .lit (.bool false)], .agg [.lit (.int .i64 316), .lit (.int .i64 (-590)), .lit (.bool false)], .agg [.lit (.int .i64 396), .lit (.int .i64 (-568)), .lit (.bool false)], .agg [.lit (.int .i64 476), .lit (.int .i64 (-538)), .lit (.bool false)]]

/-- 'hotspotlaw09.RateNames': WHATEVER THE INPUT: true; the input reads as it did. -/
def rateNamesSpec : ChangeSpec := { name := "rateNames", fn := fun _ => fun
  | [] => { results := [.lit (.bool true)], args := [] }
  | _ => none }
def rateNamesRow : OpenClaim := { program := "ytlenidhjjganeaadoor", sum := "30718554b18ffe771eac18fc482cf7376e5ca6f156a56fa7cef0d077a1c86646", func := "hotspot/hotspotlaw09.RateNames", spec := "rateNames", unfollowed := true, recurses := true, named := ["hotspot/rate.table"], apart := false, laid := [("hotspot/rate.table", laid_hotspot_rate_table)] }
def RateNamesSaid : Prop := rateNamesRow.holds Tryd.pinned (OpenSpec.ofChange rateNamesSpec)

/-- ITS FALSE NEIGHBOUR: 'it returns false'. Refute it at one input. -/
def rateNamesWrong : ChangeSpec := { name := "rateNames", fn := fun _ => fun
  | [] => { results := [.lit (.bool false)], args := [] }
  | _ => none }
def RateNamesWrongFalsely : Prop := rateNamesRow.holds Tryd.pinned (OpenSpec.ofChange rateNamesWrong)

/-- 'hotspotlaw09.RateTable': WHATEVER THE INPUT: true; the input reads as it did. -/
def rateTableSpec : ChangeSpec := { name := "rateTable", fn := fun _ => fun
  | [d1, d2] => { results := [.lit (.bool true)], args := [d1, d2] }
  | _ => none }
def rateTableRow : OpenClaim := { program := "ytlenidhjjganeaadoor", sum := "30718554b18ffe771eac18fc482cf7376e5ca6f156a56fa7cef0d077a1c86646", func := "hotspot/hotspotlaw09.RateTable", spec := "rateTable", named := ["hotspot/rate.table"], apart := false, laid := [("hotspot/rate.table", laid_hotspot_rate_table)] }
def RateTableSaid : Prop := rateTableRow.holds Tryd.pinned (OpenSpec.ofChange rateTableSpec)

/-- ITS FALSE NEIGHBOUR: 'it returns false'. Refute it at one input. -/
def rateTableWrong : ChangeSpec := { name := "rateTable", fn := fun _ => fun
  | [d1, d2] => { results := [.lit (.bool false)], args := [d1, d2] }
  | _ => none }
def RateTableWrongFalsely : Prop := rateTableRow.holds Tryd.pinned (OpenSpec.ofChange rateTableWrong)

/-- 'hotspotlaw09.RateTimes': WHATEVER THE INPUT: true; the input reads as it did. -/
def rateTimesSpec : ChangeSpec := { name := "rateTimes", fn := fun _ => fun
  | [d1, d2, d3] => { results := [.lit (.bool true)], args := [d1, d2, d3] }
  | _ => none }
def rateTimesRow : OpenClaim := { program := "ytlenidhjjganeaadoor", sum := "30718554b18ffe771eac18fc482cf7376e5ca6f156a56fa7cef0d077a1c86646", func := "hotspot/hotspotlaw09.RateTimes", spec := "rateTimes", unfollowed := true, recurses := true, named := ["hotspot/rate.table"], apart := false, laid := [("hotspot/rate.table", laid_hotspot_rate_table)] }
def RateTimesSaid : Prop := rateTimesRow.holds Tryd.pinned (OpenSpec.ofChange rateTimesSpec)

/-- ITS FALSE NEIGHBOUR: 'it returns false'. Refute it at one input. -/
def rateTimesWrong : ChangeSpec := { name := "rateTimes", fn := fun _ => fun
  | [d1, d2, d3] => { results := [.lit (.bool false)], args := [d1, d2, d3] }
  | _ => none }
def RateTimesWrongFalsely : Prop := rateTimesRow.holds Tryd.pinned (OpenSpec.ofChange rateTimesWrong)

/-- 'hotspotlaw09.RateMonotone': WHATEVER THE INPUT: true; the input reads as it did. -/
def rateMonotoneSpec : ChangeSpec := { name := "rateMonotone", fn := fun _ => fun
  | [d1, d2, d3, d4] => { results := [.lit (.bool true)], args := [d1, d2, d3, d4] }
  | _ => none }
def rateMonotoneRow : OpenClaim := { program := "ytlenidhjjganeaadoor", sum := "30718554b18ffe771eac18fc482cf7376e5ca6f156a56fa7cef0d077a1c86646", func := "hotspot/hotspotlaw09.RateMonotone", spec := "rateMonotone", unfollowed := true, recurses := true, named := ["hotspot/rate.table"], apart := false, laid := [("hotspot/rate.table", laid_hotspot_rate_table)] }
def RateMonotoneSaid : Prop := rateMonotoneRow.holds Tryd.pinned (OpenSpec.ofChange rateMonotoneSpec)

/-- ITS FALSE NEIGHBOUR: 'it returns false'. Refute it at one input. -/
def rateMonotoneWrong : ChangeSpec := { name := "rateMonotone", fn := fun _ => fun
  | [d1, d2, d3, d4] => { results := [.lit (.bool false)], args := [d1, d2, d3, d4] }
  | _ => none }
def RateMonotoneWrongFalsely : Prop := rateMonotoneRow.holds Tryd.pinned (OpenSpec.ofChange rateMonotoneWrong)

/-- 'hotspotlaw09.RateFits': WHATEVER THE INPUT: true; the input reads as it did. -/
def rateFitsSpec : ChangeSpec := { name := "rateFits", fn := fun _ => fun
  | [d1, d2, d3] => { results := [.lit (.bool true)], args := [d1, d2, d3] }
  | _ => none }
def rateFitsRow : OpenClaim := { program := "ytlenidhjjganeaadoor", sum := "30718554b18ffe771eac18fc482cf7376e5ca6f156a56fa7cef0d077a1c86646", func := "hotspot/hotspotlaw09.RateFits", spec := "rateFits", unfollowed := true, recurses := true, named := ["hotspot/rate.table"], apart := false, laid := [("hotspot/rate.table", laid_hotspot_rate_table)] }
def RateFitsSaid : Prop := rateFitsRow.holds Tryd.pinned (OpenSpec.ofChange rateFitsSpec)

/-- ITS FALSE NEIGHBOUR: 'it returns false'. Refute it at one input. -/
def rateFitsWrong : ChangeSpec := { name := "rateFits", fn := fun _ => fun
  | [d1, d2, d3] => { results := [.lit (.bool false)], args := [d1, d2, d3] }
  | _ => none }
def RateFitsWrongFalsely : Prop := rateFitsRow.holds Tryd.pinned (OpenSpec.ofChange rateFitsWrong)

/-- 'hotspotlaw09.RateLevels': WHATEVER THE INPUT: true; the input reads as it did. -/
def rateLevelsSpec : ChangeSpec := { name := "rateLevels", fn := fun _ => fun
  | [d1, d2] => { results := [.lit (.bool true)], args := [d1, d2] }
  | _ => none }
def rateLevelsRow : OpenClaim := { program := "ytlenidhjjganeaadoor", sum := "30718554b18ffe771eac18fc482cf7376e5ca6f156a56fa7cef0d077a1c86646", func := "hotspot/hotspotlaw09.RateLevels", spec := "rateLevels", unfollowed := true, recurses := true, named := ["hotspot/rate.table"], apart := false, laid := [("hotspot/rate.table", laid_hotspot_rate_table)] }
def RateLevelsSaid : Prop := rateLevelsRow.holds Tryd.pinned (OpenSpec.ofChange rateLevelsSpec)

/-- ITS FALSE NEIGHBOUR: 'it returns false'. Refute it at one input. -/
def rateLevelsWrong : ChangeSpec := { name := "rateLevels", fn := fun _ => fun
  | [d1, d2] => { results := [.lit (.bool false)], args := [d1, d2] }
  | _ => none }
def RateLevelsWrongFalsely : Prop := rateLevelsRow.holds Tryd.pinned (OpenSpec.ofChange rateLevelsWrong)

/-- 'hotspotlaw09.RateReplies': WHATEVER THE INPUT: true; the input reads as it did. -/
def rateRepliesSpec : ChangeSpec := { name := "rateReplies", fn := fun _ => fun
  | [d] => { results := [.lit (.bool true)], args := [d] }
  | _ => none }
def rateRepliesRow : OpenClaim := { program := "ytlenidhjjganeaadoor", sum := "30718554b18ffe771eac18fc482cf7376e5ca6f156a56fa7cef0d077a1c86646", func := "hotspot/hotspotlaw09.RateReplies", spec := "rateReplies", unfollowed := true, recurses := true, named := ["hotspot/rate.table"], apart := false, laid := [("hotspot/rate.table", laid_hotspot_rate_table)] }
def RateRepliesSaid : Prop := rateRepliesRow.holds Tryd.pinned (OpenSpec.ofChange rateRepliesSpec)

/-- ITS FALSE NEIGHBOUR: 'it returns false'. Refute it at one input. -/
def rateRepliesWrong : ChangeSpec := { name := "rateReplies", fn := fun _ => fun
  | [d] => { results := [.lit (.bool false)], args := [d] }
  | _ => none }
def RateRepliesWrongFalsely : Prop := rateRepliesRow.holds Tryd.pinned (OpenSpec.ofChange rateRepliesWrong)

/- THE SECOND FORM. 'bulk': how many values and letters a reading holds, each counted each time it is reached (what is shared counts as often as it is met; a slice's spare places count too). A statement '..UptoSaid' is the law's where the arguments, and the package variables that the reading takes, are together of bulk at most 1048576: NARROWER than '..Said'. Prove '..Said' where nothing that the law and all that it calls make is longer than what came in: it says more and counts as full. Else prove '..UptoSaid'. A law counts once. -/
mutual
def uptoBulk {H : Type} : DataW H → Nat
  | .lit (.string bytes) => bytes.length + 1
  | .lit _ => 1
  | .nil => 1
  | .ptr d => uptoBulk d + 1
  | .slice elems spare => uptoBulkAll elems + uptoBulkAll spare + 1
  | .agg parts => uptoBulkAll parts + 1
  | .iface _ d => uptoBulk d + 1
  | .map entries => uptoBulkEntries entries + 1
  | .held _ => 1
def uptoBulkAll {H : Type} : List (DataW H) → Nat
  | [] => 0
  | d :: r => uptoBulk d + uptoBulkAll r
def uptoBulkEntries {H : Type} : List (Lit × DataW H) → Nat
  | [] => 0
  | x :: r => uptoBulkEntry x + uptoBulkEntries r
def uptoBulkEntry {H : Type} : Lit × DataW H → Nat
  | (.string bytes, d) => bytes.length + uptoBulk d + 1
  | (_, d) => uptoBulk d + 1
 end
def uptoSmall : (H : Type) → List (DataW H) → Bool := fun _ ds => decide (uptoBulkAll ds ≤ 1048576)
def OpenSpec.upto (s : _root_.Go.ChangeSpec) : _root_.Go.OpenSpec := { _root_.Go.OpenSpec.ofChange s with cond := some uptoSmall }

/-- 'hotspotlaw09.RateNames', WHERE WHAT IT READS IS OF BULK AT MOST 1048576: true; the input reads as it did. -/
def rateNamesUptoRow : OpenClaim := { program := "ytlenidhjjganeaadoor", sum := "30718554b18ffe771eac18fc482cf7376e5ca6f156a56fa7cef0d077a1c86646", func := "hotspot/hotspotlaw09.RateNames", spec := "rateNames", unfollowed := true, recurses := true, named := ["hotspot/rate.table"], apart := false, laid := [("hotspot/rate.table", laid_hotspot_rate_table)], narrowed := true }
def RateNamesUptoSaid : Prop := rateNamesUptoRow.holds Tryd.pinned (OpenSpec.upto rateNamesSpec)

/-- 'hotspotlaw09.RateTable', WHERE WHAT IT READS IS OF BULK AT MOST 1048576: true; the input reads as it did. -/
def rateTableUptoRow : OpenClaim := { program := "ytlenidhjjganeaadoor", sum := "30718554b18ffe771eac18fc482cf7376e5ca6f156a56fa7cef0d077a1c86646", func := "hotspot/hotspotlaw09.RateTable", spec := "rateTable", named := ["hotspot/rate.table"], apart := false, laid := [("hotspot/rate.table", laid_hotspot_rate_table)], narrowed := true }
def RateTableUptoSaid : Prop := rateTableUptoRow.holds Tryd.pinned (OpenSpec.upto rateTableSpec)

/-- 'hotspotlaw09.RateTimes', WHERE WHAT IT READS IS OF BULK AT MOST 1048576: true; the input reads as it did. -/
def rateTimesUptoRow : OpenClaim := { program := "ytlenidhjjganeaadoor", sum := "30718554b18ffe771eac18fc482cf7376e5ca6f156a56fa7cef0d077a1c86646", func := "hotspot/hotspotlaw09.RateTimes", spec := "rateTimes", unfollowed := true, recurses := true, named := ["hotspot/rate.table"], apart := false, laid := [("hotspot/rate.table", laid_hotspot_rate_table)], narrowed := true }
def RateTimesUptoSaid : Prop := rateTimesUptoRow.holds Tryd.pinned (OpenSpec.upto rateTimesSpec)

/-- 'hotspotlaw09.RateMonotone', WHERE WHAT IT READS IS OF BULK AT MOST 1048576: true; the input reads as it did. -/
def rateMonotoneUptoRow : OpenClaim := { program := "ytlenidhjjganeaadoor", sum := "30718554b18ffe771eac18fc482cf7376e5ca6f156a56fa7cef0d077a1c86646", func := "hotspot/hotspotlaw09.RateMonotone", spec := "rateMonotone", unfollowed := true, recurses := true, named := ["hotspot/rate.table"], apart := false, laid := [("hotspot/rate.table", laid_hotspot_rate_table)], narrowed := true }
def RateMonotoneUptoSaid : Prop := rateMonotoneUptoRow.holds Tryd.pinned (OpenSpec.upto rateMonotoneSpec)

/-- 'hotspotlaw09.RateFits', WHERE WHAT IT READS IS OF BULK AT MOST 1048576: true; the input reads as it did. -/
def rateFitsUptoRow : OpenClaim := { program := "ytlenidhjjganeaadoor", sum := "30718554b18ffe771eac18fc482cf7376e5ca6f156a56fa7cef0d077a1c86646", func := "hotspot/hotspotlaw09.RateFits", spec := "rateFits", unfollowed := true, recurses := true, named := ["hotspot/rate.table"], apart := false, laid := [("hotspot/rate.table", laid_hotspot_rate_table)], narrowed := true }
def RateFitsUptoSaid : Prop := rateFitsUptoRow.holds Tryd.pinned (OpenSpec.upto rateFitsSpec)

/-- 'hotspotlaw09.RateLevels', WHERE WHAT IT READS IS OF BULK AT MOST 1048576: true; the input reads as it did. -/
def rateLevelsUptoRow : OpenClaim := { program := "ytlenidhjjganeaadoor", sum := "30718554b18ffe771eac18fc482cf7376e5ca6f156a56fa7cef0d077a1c86646", func := "hotspot/hotspotlaw09.RateLevels", spec := "rateLevels", unfollowed := true, recurses := true, named := ["hotspot/rate.table"], apart := false, laid := [("hotspot/rate.table", laid_hotspot_rate_table)], narrowed := true }
def RateLevelsUptoSaid : Prop := rateLevelsUptoRow.holds Tryd.pinned (OpenSpec.upto rateLevelsSpec)

/-- 'hotspotlaw09.RateReplies', WHERE WHAT IT READS IS OF BULK AT MOST 1048576: true; the input reads as it did. -/
def rateRepliesUptoRow : OpenClaim := { program := "ytlenidhjjganeaadoor", sum := "30718554b18ffe771eac18fc482cf7376e5ca6f156a56fa7cef0d077a1c86646", func := "hotspot/hotspotlaw09.RateReplies", spec := "rateReplies", unfollowed := true, recurses := true, named := ["hotspot/rate.table"], apart := false, laid := [("hotspot/rate.table", laid_hotspot_rate_table)], narrowed := true }
def RateRepliesUptoSaid : Prop := rateRepliesUptoRow.holds Tryd.pinned (OpenSpec.upto rateRepliesSpec)

end Rows
end Go.Proofs.YtlenidhjjganeaaDoor

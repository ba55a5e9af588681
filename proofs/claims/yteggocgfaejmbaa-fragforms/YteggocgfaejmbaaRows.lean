/-
  No cell of these rows narrows 'for every input' (looked for: loops, veiled, ifaces, maps, wideKeys, modest, calm, conditions, laid).
  DERIVED. THE GIVEN ROWS OF THIS SEAT. 6 by the template 'for every input the law returns true; each argument reads behind the call as it read before'; 0 by the template 'total and deterministic' (their statements: YteggocgfaejmbaaTotals.lean).
  GIVEN WITH THE SEED: the statements are not yours to turn. If you find one false, say at which input.
  Laid BY PROGRAM, IN A SANDBOX (cutbox-rows.mjs): the forced cells as the released guide's own fill.sh prints them over the translation 3707dbd985c3de64… (all of the seat's roots in one cut). By AI agents, Wed Nov 11 2026. No macro, syntax, notation, axiom, sorry.
-/
import Derived.Test.YteggocgfaejmbaaChecked
import GoSem.Claim
import GoSem.ClaimJoined
import GoSem.ClaimMapViews
import Derived.JoinedTies
import Derived.KernelRfl
namespace Go.Proofs.Yteggocgfaejmbaa
/- THE CELL 'sum', in the pinned program and in every row, IS THE sha256 OF THE DUMP (.gsa) THAT YteggocgfaejmbaaProg.lean LOADS. Nothing in Lean hashes anything: it is a label: what it is worth is what the hold of that sum in a sandbox is worth. -/
noncomputable def Try.pinned : Pinned := { name := "yteggocgfaejmbaa", sum := "3707dbd985c3de648465357067e7982f4fbd425197418640afb1ef40726506a7", checked := Try.checked }
namespace Rows
def none {H : Type} : Left H := { results := [], args := [] }

/-- 'foremanlaw09.FragTells': WHATEVER THE INPUT: true; the input reads as it did. -/
def fragTellsSpec : ChangeSpec := { name := "fragTells", fn := fun _ => fun
  | [d1, d2, d3, d4] => { results := [.lit (.bool true)], args := [d1, d2, d3, d4] }
  | _ => none }
def fragTellsRow : OpenClaim := { program := "yteggocgfaejmbaa", sum := "3707dbd985c3de648465357067e7982f4fbd425197418640afb1ef40726506a7", func := "foreman/foremanlaw09.FragTells", spec := "fragTells", inPlace := ["internal/abi.NoEscape", "internal/bytealg.MakeNoZero"], unfollowed := true, recurses := true, apart := false }
def FragTellsSaid : Prop := fragTellsRow.holds Try.pinned (OpenSpec.ofChange fragTellsSpec)

/-- ITS FALSE NEIGHBOUR: 'it returns false'. Refute it at one input. -/
def fragTellsWrong : ChangeSpec := { name := "fragTells", fn := fun _ => fun
  | [d1, d2, d3, d4] => { results := [.lit (.bool false)], args := [d1, d2, d3, d4] }
  | _ => none }
def FragTellsWrongFalsely : Prop := fragTellsRow.holds Try.pinned (OpenSpec.ofChange fragTellsWrong)

/-- 'foremanlaw09.FragBack': WHATEVER THE INPUT: true; the input reads as it did. -/
def fragBackSpec : ChangeSpec := { name := "fragBack", fn := fun _ => fun
  | [d1, d2, d3] => { results := [.lit (.bool true)], args := [d1, d2, d3] }
  | _ => none }
def fragBackRow : OpenClaim := { program := "yteggocgfaejmbaa", sum := "3707dbd985c3de648465357067e7982f4fbd425197418640afb1ef40726506a7", func := "foreman/foremanlaw09.FragBack", spec := "fragBack", inPlace := ["internal/abi.NoEscape", "internal/bytealg.MakeNoZero"], unfollowed := true, recurses := true, apart := false }
def FragBackSaid : Prop := fragBackRow.holds Try.pinned (OpenSpec.ofChange fragBackSpec)

/-- ITS FALSE NEIGHBOUR: 'it returns false'. Refute it at one input. -/
def fragBackWrong : ChangeSpec := { name := "fragBack", fn := fun _ => fun
  | [d1, d2, d3] => { results := [.lit (.bool false)], args := [d1, d2, d3] }
  | _ => none }
def FragBackWrongFalsely : Prop := fragBackRow.holds Try.pinned (OpenSpec.ofChange fragBackWrong)

/-- 'foremanlaw09.FragOne': WHATEVER THE INPUT: true; the input reads as it did. -/
def fragOneSpec : ChangeSpec := { name := "fragOne", fn := fun _ => fun
  | [d1, d2, d3] => { results := [.lit (.bool true)], args := [d1, d2, d3] }
  | _ => none }
def fragOneRow : OpenClaim := { program := "yteggocgfaejmbaa", sum := "3707dbd985c3de648465357067e7982f4fbd425197418640afb1ef40726506a7", func := "foreman/foremanlaw09.FragOne", spec := "fragOne", inPlace := ["internal/abi.NoEscape", "internal/bytealg.MakeNoZero"], unfollowed := true, recurses := true, apart := false }
def FragOneSaid : Prop := fragOneRow.holds Try.pinned (OpenSpec.ofChange fragOneSpec)

/-- ITS FALSE NEIGHBOUR: 'it returns false'. Refute it at one input. -/
def fragOneWrong : ChangeSpec := { name := "fragOne", fn := fun _ => fun
  | [d1, d2, d3] => { results := [.lit (.bool false)], args := [d1, d2, d3] }
  | _ => none }
def FragOneWrongFalsely : Prop := fragOneRow.holds Try.pinned (OpenSpec.ofChange fragOneWrong)

/-- 'foremanlaw09.FragCopy': WHATEVER THE INPUT: true; the input reads as it did. -/
def fragCopySpec : ChangeSpec := { name := "fragCopy", fn := fun _ => fun
  | [d1, d2, d3] => { results := [.lit (.bool true)], args := [d1, d2, d3] }
  | _ => none }
def fragCopyRow : OpenClaim := { program := "yteggocgfaejmbaa", sum := "3707dbd985c3de648465357067e7982f4fbd425197418640afb1ef40726506a7", func := "foreman/foremanlaw09.FragCopy", spec := "fragCopy", inPlace := ["internal/abi.NoEscape", "internal/bytealg.MakeNoZero"], unfollowed := true, recurses := true, apart := false }
def FragCopySaid : Prop := fragCopyRow.holds Try.pinned (OpenSpec.ofChange fragCopySpec)

/-- ITS FALSE NEIGHBOUR: 'it returns false'. Refute it at one input. -/
def fragCopyWrong : ChangeSpec := { name := "fragCopy", fn := fun _ => fun
  | [d1, d2, d3] => { results := [.lit (.bool false)], args := [d1, d2, d3] }
  | _ => none }
def FragCopyWrongFalsely : Prop := fragCopyRow.holds Try.pinned (OpenSpec.ofChange fragCopyWrong)

/-- 'foremanlaw09.FragForms': WHATEVER THE INPUT: true; the input reads as it did. -/
def fragFormsSpec : ChangeSpec := { name := "fragForms", fn := fun _ => fun
  | [d1, d2, d3] => { results := [.lit (.bool true)], args := [d1, d2, d3] }
  | _ => none }
def fragFormsRow : OpenClaim := { program := "yteggocgfaejmbaa", sum := "3707dbd985c3de648465357067e7982f4fbd425197418640afb1ef40726506a7", func := "foreman/foremanlaw09.FragForms", spec := "fragForms", inPlace := ["internal/abi.NoEscape", "internal/bytealg.MakeNoZero"], unfollowed := true, recurses := true, apart := false }
def FragFormsSaid : Prop := fragFormsRow.holds Try.pinned (OpenSpec.ofChange fragFormsSpec)

/-- ITS FALSE NEIGHBOUR: 'it returns false'. Refute it at one input. -/
def fragFormsWrong : ChangeSpec := { name := "fragForms", fn := fun _ => fun
  | [d1, d2, d3] => { results := [.lit (.bool false)], args := [d1, d2, d3] }
  | _ => none }
def FragFormsWrongFalsely : Prop := fragFormsRow.holds Try.pinned (OpenSpec.ofChange fragFormsWrong)

/-- 'foremanlaw09.FragNames': WHATEVER THE INPUT: true; the input reads as it did. -/
def fragNamesSpec : ChangeSpec := { name := "fragNames", fn := fun _ => fun
  | [d1, d2] => { results := [.lit (.bool true)], args := [d1, d2] }
  | _ => none }
def fragNamesRow : OpenClaim := { program := "yteggocgfaejmbaa", sum := "3707dbd985c3de648465357067e7982f4fbd425197418640afb1ef40726506a7", func := "foreman/foremanlaw09.FragNames", spec := "fragNames", inPlace := ["internal/abi.NoEscape", "internal/bytealg.MakeNoZero"], unfollowed := true, recurses := true, apart := false }
def FragNamesSaid : Prop := fragNamesRow.holds Try.pinned (OpenSpec.ofChange fragNamesSpec)

/-- ITS FALSE NEIGHBOUR: 'it returns false'. Refute it at one input. -/
def fragNamesWrong : ChangeSpec := { name := "fragNames", fn := fun _ => fun
  | [d1, d2] => { results := [.lit (.bool false)], args := [d1, d2] }
  | _ => none }
def FragNamesWrongFalsely : Prop := fragNamesRow.holds Try.pinned (OpenSpec.ofChange fragNamesWrong)

/- THE SECOND FORM. 'bulk': how many values and letters a reading holds, each counted each time it is reached (what is shared counts as often as it is met; a slice's spare places count too). A statement '..UptoSaid' is the law's where the arguments, and the package variables that the reading takes, are together of bulk at most 1048576: NARROWER than '..Said'. Prove '..Said' where nothing that the law and all that it calls make is longer than what came in: it says more and counts as full. Else prove '..UptoSaid'. A law counts once. -/
mutual
def uptoBulk {H : Type} : DataW H → Nat
  | .lit (.string bytes) => bytes.length + 1
  | .lit _ => 1
  | .nil => 1
  | .ptr d => uptoBulk d + 1
  | .slice elems spare => uptoBulkAll elems + uptoBulkAll spare + 1
  | .agg parts => uptoBulkAll parts + 1
  | .iface _ d => uptoBulk d + 1
  | .map entries => uptoBulkEntries entries + 1
  | .held _ => 1
def uptoBulkAll {H : Type} : List (DataW H) → Nat
  | [] => 0
  | d :: r => uptoBulk d + uptoBulkAll r
def uptoBulkEntries {H : Type} : List (Lit × DataW H) → Nat
  | [] => 0
  | x :: r => uptoBulkEntry x + uptoBulkEntries r
def uptoBulkEntry {H : Type} : Lit × DataW H → Nat
  | (.string bytes, d) => bytes.length + uptoBulk d + 1
  | (_, d) => uptoBulk d + 1
 end
def uptoSmall : (H : Type) → List (DataW H) → Bool := fun _ ds => decide (uptoBulkAll ds ≤ 1048576)
def OpenSpec.upto (s : _root_.Go.ChangeSpec) : _root_.Go.OpenSpec := { _root_.Go.OpenSpec.ofChange s with cond := some uptoSmall }

/-- 'foremanlaw09.FragTells', WHERE WHAT IT READS IS OF BULK AT MOST 1048576: true; the input reads as it did. -/
def fragTellsUptoRow : OpenClaim := { program := "yteggocgfaejmbaa", sum := "3707dbd985c3de648465357067e7982f4fbd425197418640afb1ef40726506a7", func := "foreman/foremanlaw09.FragTells", spec := "fragTells", inPlace := ["internal/abi.NoEscape", "internal/bytealg.MakeNoZero"], unfollowed := true, recurses := true, apart := false, narrowed := true }
def FragTellsUptoSaid : Prop := fragTellsUptoRow.holds Try.pinned (OpenSpec.upto fragTellsSpec)

/-- 'foremanlaw09.FragBack', WHERE WHAT IT READS IS OF BULK AT MOST 1048576: true; the input reads as it did. -/
def fragBackUptoRow : OpenClaim := { program := "yteggocgfaejmbaa", sum := "3707dbd985c3de648465357067e7982f4fbd425197418640afb1ef40726506a7", func := "foreman/foremanlaw09.FragBack", spec := "fragBack", inPlace := ["internal/abi.NoEscape", "internal/bytealg.MakeNoZero"], unfollowed := true, recurses := true, apart := false, narrowed := true }
def FragBackUptoSaid : Prop := fragBackUptoRow.holds Try.pinned (OpenSpec.upto fragBackSpec)

/-- 'foremanlaw09.FragOne', WHERE WHAT IT READS IS OF BULK AT MOST 1048576: true; the input reads as it did. -/
def fragOneUptoRow : OpenClaim := { program := "yteggocgfaejmbaa", sum := "3707dbd985c3de648465357067e7982f4fbd425197418640afb1ef40726506a7", func := "foreman/foremanlaw09.FragOne", spec := "fragOne", inPlace := ["internal/abi.NoEscape", "internal/bytealg.MakeNoZero"], unfollowed := true, recurses := true, apart := false, narrowed := true }
def FragOneUptoSaid : Prop := fragOneUptoRow.holds Try.pinned (OpenSpec.upto fragOneSpec)

/-- 'foremanlaw09.FragCopy', WHERE WHAT IT READS IS OF BULK AT MOST 1048576: true; the input reads as it did. -/
def fragCopyUptoRow : OpenClaim := { program := "yteggocgfaejmbaa", sum := "3707dbd985c3de648465357067e7982f4fbd425197418640afb1ef40726506a7", func := "foreman/foremanlaw09.FragCopy", spec := "fragCopy", inPlace := ["internal/abi.NoEscape", "internal/bytealg.MakeNoZero"], unfollowed := true, recurses := true, apart := false, narrowed := true }
def FragCopyUptoSaid : Prop := fragCopyUptoRow.holds Try.pinned (OpenSpec.upto fragCopySpec)

/-- 'foremanlaw09.FragForms', WHERE WHAT IT READS IS OF BULK AT MOST 1048576: true; the input reads as it did. -/
def fragFormsUptoRow : OpenClaim := { program := "yteggocgfaejmbaa", sum := "3707dbd985c3de648465357067e7982f4fbd425197418640afb1ef40726506a7", func := "foreman/foremanlaw09.FragForms", spec := "fragForms", inPlace := ["internal/abi.NoEscape", "internal/bytealg.MakeNoZero"], unfollowed := true, recurses := true, apart := false, narrowed := true }
def FragFormsUptoSaid : Prop := fragFormsUptoRow.holds Try.pinned (OpenSpec.upto fragFormsSpec)

/-- 'foremanlaw09.FragNames', WHERE WHAT IT READS IS OF BULK AT MOST 1048576: true; the input reads as it did. -/
def fragNamesUptoRow : OpenClaim := { program := "yteggocgfaejmbaa", sum := "3707dbd985c3de648465357067e7982f4fbd425197418640afb1ef40726506a7", func := "foreman/foremanlaw09.FragNames", spec := "fragNames", inPlace := ["internal/abi.NoEscape", "internal/bytealg.MakeNoZero"], unfollowed := true, recurses := true, apart := false, narrowed := true }
def FragNamesUptoSaid : Prop := fragNamesUptoRow.holds Try.pinned (OpenSpec.upto fragNamesSpec)

end Rows
end Go.Proofs.Yteggocgfaejmbaa

/-
  No cell of these rows narrows 'for every input' (looked for: loops, veiled, ifaces, maps, wideKeys, modest, calm, conditions, laid).
  DERIVED. THE GIVEN ROWS OF THIS SEAT. 9 by the template 'for every input the law returns true; each argument reads behind the call as it read before'; 0 by the template 'total and deterministic' (their statements: YtjagjkogloggpaaGreatTotals.lean).
  GIVEN WITH THE SEED: the statements are not yours to turn. If you find one false, say at which input.
  Laid BY PROGRAM, IN A SANDBOX (cutbox-rows.mjs): the forced cells as the released guide's own fill.sh prints them over the translation 3b022f93514150e8… (all of the seat's roots in one cut). By AI agents, Wed Nov 11 2026. No macro, syntax, notation, axiom, sorry.
-/
import Derived.Test.YtjagjkogloggpaaGreatChecked
import GoSem.Claim
import GoSem.ClaimJoined
import GoSem.ClaimMapViews
import Derived.JoinedTies
import Derived.KernelRfl
namespace Go.Proofs.YtjagjkogloggpaaGreat
/- THE CELL 'sum', in the pinned program and in every row, IS THE sha256 OF THE DUMP (.gsa) THAT YtjagjkogloggpaaGreatProg.lean LOADS. Nothing in Lean hashes anything: it is a label: what it is worth is what the hold of that sum in a sandbox is worth. -/
noncomputable def Tryz.pinned : Pinned := { name := "ytjagjkogloggpaagreat", sum := "3b022f93514150e81038116bf81d7765933f9fb3697368c4fbcc65ef9540e0b9", checked := Tryz.checked }
namespace Rows
def none {H : Type} : Left H := { results := [], args := [] }

/-- 'theodolitelaw09.ScopesGets': WHATEVER THE INPUT: true; the input reads as it did. -/
def scopesGetsSpec : ChangeSpec := { name := "scopesGets", fn := fun _ => fun
  | [d1, d2] => { results := [.lit (.bool true)], args := [d1, d2] }
  | _ => none }
def scopesGetsRow : OpenClaim := { program := "ytjagjkogloggpaagreat", sum := "3b022f93514150e81038116bf81d7765933f9fb3697368c4fbcc65ef9540e0b9", func := "theodolite/theodolitelaw09.ScopesGets", spec := "scopesGets", unfollowed := true, recurses := true, apart := false }
def ScopesGetsSaid : Prop := scopesGetsRow.holds Tryz.pinned (OpenSpec.ofChange scopesGetsSpec)

/-- ITS FALSE NEIGHBOUR: 'it returns false'. Refute it at one input. -/
def scopesGetsWrong : ChangeSpec := { name := "scopesGets", fn := fun _ => fun
  | [d1, d2] => { results := [.lit (.bool false)], args := [d1, d2] }
  | _ => none }
def ScopesGetsWrongFalsely : Prop := scopesGetsRow.holds Tryz.pinned (OpenSpec.ofChange scopesGetsWrong)

/-- 'theodolitelaw09.ScopesFinds': WHATEVER THE INPUT: true; the input reads as it did. -/
def scopesFindsSpec : ChangeSpec := { name := "scopesFinds", fn := fun _ => fun
  | [d1, d2, d3, d4] => { results := [.lit (.bool true)], args := [d1, d2, d3, d4] }
  | _ => none }
def scopesFindsRow : OpenClaim := { program := "ytjagjkogloggpaagreat", sum := "3b022f93514150e81038116bf81d7765933f9fb3697368c4fbcc65ef9540e0b9", func := "theodolite/theodolitelaw09.ScopesFinds", spec := "scopesFinds", unfollowed := true, recurses := true, apart := false }
def ScopesFindsSaid : Prop := scopesFindsRow.holds Tryz.pinned (OpenSpec.ofChange scopesFindsSpec)

/-- ITS FALSE NEIGHBOUR: 'it returns false'. Refute it at one input. -/
def scopesFindsWrong : ChangeSpec := { name := "scopesFinds", fn := fun _ => fun
  | [d1, d2, d3, d4] => { results := [.lit (.bool false)], args := [d1, d2, d3, d4] }
  | _ => none }
def ScopesFindsWrongFalsely : Prop := scopesFindsRow.holds Tryz.pinned (OpenSpec.ofChange scopesFindsWrong)

/-- 'theodolitelaw09.ScopesBack': WHATEVER THE INPUT: true; the input reads as it did. -/
def scopesBackSpec : ChangeSpec := { name := "scopesBack", fn := fun _ => fun
  | [d1, d2, d3] => { results := [.lit (.bool true)], args := [d1, d2, d3] }
  | _ => none }
def scopesBackRow : OpenClaim := { program := "ytjagjkogloggpaagreat", sum := "3b022f93514150e81038116bf81d7765933f9fb3697368c4fbcc65ef9540e0b9", func := "theodolite/theodolitelaw09.ScopesBack", spec := "scopesBack", unfollowed := true, recurses := true, apart := false }
def ScopesBackSaid : Prop := scopesBackRow.holds Tryz.pinned (OpenSpec.ofChange scopesBackSpec)

/-- ITS FALSE NEIGHBOUR: 'it returns false'. Refute it at one input. -/
def scopesBackWrong : ChangeSpec := { name := "scopesBack", fn := fun _ => fun
  | [d1, d2, d3] => { results := [.lit (.bool false)], args := [d1, d2, d3] }
  | _ => none }
def ScopesBackWrongFalsely : Prop := scopesBackRow.holds Tryz.pinned (OpenSpec.ofChange scopesBackWrong)

/-- 'theodolitelaw09.ScopesWrong': WHATEVER THE INPUT: true; the input reads as it did. -/
def scopesWrongSpec : ChangeSpec := { name := "scopesWrong", fn := fun _ => fun
  | [d1, d2] => { results := [.lit (.bool true)], args := [d1, d2] }
  | _ => none }
def scopesWrongRow : OpenClaim := { program := "ytjagjkogloggpaagreat", sum := "3b022f93514150e81038116bf81d7765933f9fb3697368c4fbcc65ef9540e0b9", func := "theodolite/theodolitelaw09.ScopesWrong", spec := "scopesWrong", unfollowed := true, recurses := true, apart := false }
def ScopesWrongSaid : Prop := scopesWrongRow.holds Tryz.pinned (OpenSpec.ofChange scopesWrongSpec)

/-- ITS FALSE NEIGHBOUR: 'it returns false'. Refute it at one input. -/
def scopesWrongWrong : ChangeSpec := { name := "scopesWrong", fn := fun _ => fun
  | [d1, d2] => { results := [.lit (.bool false)], args := [d1, d2] }
  | _ => none }
def ScopesWrongWrongFalsely : Prop := scopesWrongRow.holds Tryz.pinned (OpenSpec.ofChange scopesWrongWrong)

/-- 'theodolitelaw10.ImageWrites': WHATEVER THE INPUT: true; the input reads as it did. -/
def imageWritesSpec : ChangeSpec := { name := "imageWrites", fn := fun _ => fun
  | [d] => { results := [.lit (.bool true)], args := [d] }
  | _ => none }
def imageWritesRow : OpenClaim := { program := "ytjagjkogloggpaagreat", sum := "3b022f93514150e81038116bf81d7765933f9fb3697368c4fbcc65ef9540e0b9", func := "theodolite/theodolitelaw10.ImageWrites", spec := "imageWrites", unfollowed := true, recurses := true, apart := false }
def ImageWritesSaid : Prop := imageWritesRow.holds Tryz.pinned (OpenSpec.ofChange imageWritesSpec)

/-- ITS FALSE NEIGHBOUR: 'it returns false'. Refute it at one input. -/
def imageWritesWrong : ChangeSpec := { name := "imageWrites", fn := fun _ => fun
  | [d] => { results := [.lit (.bool false)], args := [d] }
  | _ => none }
def ImageWritesWrongFalsely : Prop := imageWritesRow.holds Tryz.pinned (OpenSpec.ofChange imageWritesWrong)

/-- 'theodolitelaw10.ImageReads': WHATEVER THE INPUT: true; the input reads as it did. -/
def imageReadsSpec : ChangeSpec := { name := "imageReads", fn := fun _ => fun
  | [d] => { results := [.lit (.bool true)], args := [d] }
  | _ => none }
def imageReadsRow : OpenClaim := { program := "ytjagjkogloggpaagreat", sum := "3b022f93514150e81038116bf81d7765933f9fb3697368c4fbcc65ef9540e0b9", func := "theodolite/theodolitelaw10.ImageReads", spec := "imageReads", unfollowed := true, recurses := true, apart := false }
def ImageReadsSaid : Prop := imageReadsRow.holds Tryz.pinned (OpenSpec.ofChange imageReadsSpec)

/-- ITS FALSE NEIGHBOUR: 'it returns false'. Refute it at one input. -/
def imageReadsWrong : ChangeSpec := { name := "imageReads", fn := fun _ => fun
  | [d] => { results := [.lit (.bool false)], args := [d] }
  | _ => none }
def ImageReadsWrongFalsely : Prop := imageReadsRow.holds Tryz.pinned (OpenSpec.ofChange imageReadsWrong)

/-- 'theodolitelaw10.ImageBack': WHATEVER THE INPUT: true; the input reads as it did. -/
def imageBackSpec : ChangeSpec := { name := "imageBack", fn := fun _ => fun
  | [d1, d2] => { results := [.lit (.bool true)], args := [d1, d2] }
  | _ => none }
def imageBackRow : OpenClaim := { program := "ytjagjkogloggpaagreat", sum := "3b022f93514150e81038116bf81d7765933f9fb3697368c4fbcc65ef9540e0b9", func := "theodolite/theodolitelaw10.ImageBack", spec := "imageBack", unfollowed := true, recurses := true, apart := false }
def ImageBackSaid : Prop := imageBackRow.holds Tryz.pinned (OpenSpec.ofChange imageBackSpec)

/-- ITS FALSE NEIGHBOUR: 'it returns false'. Refute it at one input. -/
def imageBackWrong : ChangeSpec := { name := "imageBack", fn := fun _ => fun
  | [d1, d2] => { results := [.lit (.bool false)], args := [d1, d2] }
  | _ => none }
def ImageBackWrongFalsely : Prop := imageBackRow.holds Tryz.pinned (OpenSpec.ofChange imageBackWrong)

/-- 'theodolitelaw10.ImageBegins': WHATEVER THE INPUT: true; the input reads as it did. -/
def imageBeginsSpec : ChangeSpec := { name := "imageBegins", fn := fun _ => fun
  | [d] => { results := [.lit (.bool true)], args := [d] }
  | _ => none }
def imageBeginsRow : OpenClaim := { program := "ytjagjkogloggpaagreat", sum := "3b022f93514150e81038116bf81d7765933f9fb3697368c4fbcc65ef9540e0b9", func := "theodolite/theodolitelaw10.ImageBegins", spec := "imageBegins", unfollowed := true, recurses := true, apart := false }
def ImageBeginsSaid : Prop := imageBeginsRow.holds Tryz.pinned (OpenSpec.ofChange imageBeginsSpec)

/-- ITS FALSE NEIGHBOUR: 'it returns false'. Refute it at one input. -/
def imageBeginsWrong : ChangeSpec := { name := "imageBegins", fn := fun _ => fun
  | [d] => { results := [.lit (.bool false)], args := [d] }
  | _ => none }
def ImageBeginsWrongFalsely : Prop := imageBeginsRow.holds Tryz.pinned (OpenSpec.ofChange imageBeginsWrong)

/-- 'theodolitelaw10.ImageWrong': WHATEVER THE INPUT: true; the input reads as it did. -/
def imageWrongSpec : ChangeSpec := { name := "imageWrong", fn := fun _ => fun
  | [d1, d2] => { results := [.lit (.bool true)], args := [d1, d2] }
  | _ => none }
def imageWrongRow : OpenClaim := { program := "ytjagjkogloggpaagreat", sum := "3b022f93514150e81038116bf81d7765933f9fb3697368c4fbcc65ef9540e0b9", func := "theodolite/theodolitelaw10.ImageWrong", spec := "imageWrong", unfollowed := true, recurses := true, apart := false }
def ImageWrongSaid : Prop := imageWrongRow.holds Tryz.pinned (OpenSpec.ofChange imageWrongSpec)

/-- ITS FALSE NEIGHBOUR: 'it returns false'. Refute it at one input. -/
def imageWrongWrong : ChangeSpec := { name := "imageWrong", fn := fun _ => fun
  | [d1, d2] => { results := [.lit (.bool false)], args := [d1, d2] }
  | _ => none }
def ImageWrongWrongFalsely : Prop := imageWrongRow.holds Tryz.pinned (OpenSpec.ofChange imageWrongWrong)

/- THE SECOND FORM. 'bulk': how many values and letters a reading holds, each counted each time it is reached (what is shared counts as often as it is met; a slice's spare places count too). A statement '..UptoSaid' is the law's where the arguments, and the package variables that the reading takes, are together of bulk at most 1048576: NARROWER than '..Said'. Prove '..Said' where nothing that the law and all that it calls make is longer than what came in: it says more and counts as full. Else prove '..UptoSaid'. A law counts once. -/
mutual
def uptoBulk {H : Type} : DataW H → Nat
  | .lit (.string bytes) => bytes.length + 1
  | .lit _ => 1
  | .nil => 1
  | .ptr d => uptoBulk d + 1
  | .slice elems spare => uptoBulkAll elems + uptoBulkAll spare + 1
  | .agg parts => uptoBulkAll parts + 1
  | .iface _ d => uptoBulk d + 1
  | .map entries => uptoBulkEntries entries + 1
  | .held _ => 1
def uptoBulkAll {H : Type} : List (DataW H) → Nat
  | [] => 0
  | d :: r => uptoBulk d + uptoBulkAll r
def uptoBulkEntries {H : Type} : List (Lit × DataW H) → Nat
  | [] => 0
  | x :: r => uptoBulkEntry x + uptoBulkEntries r
def uptoBulkEntry {H : Type} : Lit × DataW H → Nat
  | (.string bytes, d) => bytes.length + uptoBulk d + 1
  | (_, d) => uptoBulk d + 1
 end
def uptoSmall : (H : Type) → List (DataW H) → Bool := fun _ ds => decide (uptoBulkAll ds ≤ 1048576)
def OpenSpec.upto (s : _root_.Go.ChangeSpec) : _root_.Go.OpenSpec := { _root_.Go.OpenSpec.ofChange s with cond := some uptoSmall }

/-- 'theodolitelaw09.ScopesGets', WHERE WHAT IT READS IS OF BULK AT MOST 1048576: true; the input reads as it did. -/
def scopesGetsUptoRow : OpenClaim := { program := "ytjagjkogloggpaagreat", sum := "3b022f93514150e81038116bf81d7765933f9fb3697368c4fbcc65ef9540e0b9", func := "theodolite/theodolitelaw09.ScopesGets", spec := "scopesGets", unfollowed := true, recurses := true, apart := false, narrowed := true }
def ScopesGetsUptoSaid : Prop := scopesGetsUptoRow.holds Tryz.pinned (OpenSpec.upto scopesGetsSpec)

/-- 'theodolitelaw09.ScopesFinds', WHERE WHAT IT READS IS OF BULK AT MOST 1048576: true; the input reads as it did. -/
def scopesFindsUptoRow : OpenClaim := { program := "ytjagjkogloggpaagreat", sum := "3b022f93514150e81038116bf81d7765933f9fb3697368c4fbcc65ef9540e0b9", func := "theodolite/theodolitelaw09.ScopesFinds", spec := "scopesFinds", unfollowed := true, recurses := true, apart := false, narrowed := true }
def ScopesFindsUptoSaid : Prop := scopesFindsUptoRow.holds Tryz.pinned (OpenSpec.upto scopesFindsSpec)

/-- 'theodolitelaw09.ScopesBack', WHERE WHAT IT READS IS OF BULK AT MOST 1048576: true; the input reads as it did. -/
def scopesBackUptoRow : OpenClaim := { program := "ytjagjkogloggpaagreat", sum := "3b022f93514150e81038116bf81d7765933f9fb3697368c4fbcc65ef9540e0b9", func := "theodolite/theodolitelaw09.ScopesBack", spec := "scopesBack", unfollowed := true, recurses := true, apart := false, narrowed := true }
def ScopesBackUptoSaid : Prop := scopesBackUptoRow.holds Tryz.pinned (OpenSpec.upto scopesBackSpec)

/-- 'theodolitelaw09.ScopesWrong', WHERE WHAT IT READS IS OF BULK AT MOST 1048576: true; the input reads as it did. -/
def scopesWrongUptoRow : OpenClaim := { program := "ytjagjkogloggpaagreat", sum := "3b022f93514150e81038116bf81d7765933f9fb3697368c4fbcc65ef9540e0b9", func := "theodolite/theodolitelaw09.ScopesWrong", spec := "scopesWrong", unfollowed := true, recurses := true, apart := false, narrowed := true }
def ScopesWrongUptoSaid : Prop := scopesWrongUptoRow.holds Tryz.pinned (OpenSpec.upto scopesWrongSpec)

/-- 'theodolitelaw10.ImageWrites', WHERE WHAT IT READS IS OF BULK AT MOST 1048576: true; the input reads as it did. -/
def imageWritesUptoRow : OpenClaim := { program := "ytjagjkogloggpaagreat", sum := "3b022f93514150e81038116bf81d7765933f9fb3697368c4fbcc65ef9540e0b9", func := "theodolite/theodolitelaw10.ImageWrites", spec := "imageWrites", unfollowed := true, recurses := true, apart := false, narrowed := true }
def ImageWritesUptoSaid : Prop := imageWritesUptoRow.holds Tryz.pinned (OpenSpec.upto imageWritesSpec)

/-- 'theodolitelaw10.ImageReads', WHERE WHAT IT READS IS OF BULK AT MOST 1048576: true; the input reads as it did. -/
def imageReadsUptoRow : OpenClaim := { program := "ytjagjkogloggpaagreat", sum := "3b022f93514150e81038116bf81d7765933f9fb3697368c4fbcc65ef9540e0b9", func := "theodolite/theodolitelaw10.ImageReads", spec := "imageReads", unfollowed := true, recurses := true, apart := false, narrowed := true }
def ImageReadsUptoSaid : Prop := imageReadsUptoRow.holds Tryz.pinned (OpenSpec.upto imageReadsSpec)

/-- 'theodolitelaw10.ImageBack', WHERE WHAT IT READS IS OF BULK AT MOST 1048576: true; the input reads as it did. -/
def imageBackUptoRow : OpenClaim := { program := "ytjagjkogloggpaagreat", sum := "3b022f93514150e81038116bf81d7765933f9fb3697368c4fbcc65ef9540e0b9", func := "theodolite/theodolitelaw10.ImageBack", spec := "imageBack", unfollowed := true, recurses := true, apart := false, narrowed := true }
def ImageBackUptoSaid : Prop := imageBackUptoRow.holds Tryz.pinned (OpenSpec.upto imageBackSpec)

/-- 'theodolitelaw10.ImageBegins', WHERE WHAT IT READS IS OF BULK AT MOST 1048576: true; the input reads as it did. -/
def imageBeginsUptoRow : OpenClaim := { program := "ytjagjkogloggpaagreat", sum := "3b022f93514150e81038116bf81d7765933f9fb3697368c4fbcc65ef9540e0b9", func := "theodolite/theodolitelaw10.ImageBegins", spec := "imageBegins", unfollowed := true, recurses := true, apart := false, narrowed := true }
def ImageBeginsUptoSaid : Prop := imageBeginsUptoRow.holds Tryz.pinned (OpenSpec.upto imageBeginsSpec)

/-- 'theodolitelaw10.ImageWrong', WHERE WHAT IT READS IS OF BULK AT MOST 1048576: true; the input reads as it did. -/
def imageWrongUptoRow : OpenClaim := { program := "ytjagjkogloggpaagreat", sum := "3b022f93514150e81038116bf81d7765933f9fb3697368c4fbcc65ef9540e0b9", func := "theodolite/theodolitelaw10.ImageWrong", spec := "imageWrong", unfollowed := true, recurses := true, apart := false, narrowed := true }
def ImageWrongUptoSaid : Prop := imageWrongUptoRow.holds Tryz.pinned (OpenSpec.upto imageWrongSpec)

end Rows
end Go.Proofs.YtjagjkogloggpaaGreat

/-
  NARROWER THAN 'FOR EVERY INPUT', by the rows' own cells (each row's printed sentence says how): WindowOf: laid · WindowMeets: laid · WindowPrefix: laid · AttestParses: laid · HeaderChains: laid · RosterAdds: laid · RosterLays: laid.
  DERIVED. THE GIVEN ROWS OF THIS SEAT. 7 by the template 'for every input the law returns true; each argument reads behind the call as it read before'; 0 by the template 'total and deterministic' (their statements: YtioahjdojgcfdaaDoorTotals.lean).
  GIVEN WITH THE SEED: the statements are not yours to turn. If you find one false, say at which input.
  Laid BY PROGRAM, IN A SANDBOX (cutbox-rows.mjs): the forced cells as the released guide's own fill.sh prints them over the translation cc5a08cd159bbaf0… (all of the seat's roots in one cut). By AI agents, Wed Nov 11 2026. No macro, syntax, notation, axiom, sorry.
-/
import Derived.Test.YtioahjdojgcfdaaDoorChecked
import GoSem.PinnedTables
import GoSem.Claim
import GoSem.ClaimJoined
import GoSem.ClaimMapViews
import Derived.JoinedTies
import Derived.KernelRfl
namespace Go.Proofs.YtioahjdojgcfdaaDoor
/- THE CELL 'sum', in the pinned program and in every row, IS THE sha256 OF THE DUMP (.gsa) THAT YtioahjdojgcfdaaDoorProg.lean LOADS. Nothing in Lean hashes anything: it is a label: what it is worth is what the hold of that sum in a sandbox is worth. -/
noncomputable def Tryd.pinned : Pinned := { name := "ytioahjdojgcfdaadoor", sum := "cc5a08cd159bbaf0da649d0420d79ee8979997f6ba091a4ee97d70acc6be79a4", checked := Tryd.checked }
namespace Rows
def none {H : Type} : Left H := { results := [], args := [] }

/- WHAT THE LISTED PACKAGE-LEVEL VARIABLES READ AS WHEN THE CALL BEGINS. Each datum BY PROGRAM (the guide's laid-datum.mjs) off the statement by which the dump's own 'gosem.cut.vars' lays the variable. In a bare row this is a premise. The card (YtioahjdojgcfdaaDoorCards.lean) ties it to the program's text. -/
def laid_plumbob_sha_start {H : Type} : DataW H := .agg [.lit (.int .u32 1779033703), .lit (.int .u32 3144134277), .lit (.int .u32 1013904242), .lit (.int .u32 2773480762), .lit (.int .u32 1359893119), .lit (.int .u32 2600822924), .lit (.int .u32 528734635), .lit (.int .u32 1541459225)]
def laid_plumbob_sha_roots {H : Type} : DataW H := .agg [.lit (.int .u32 1116352408), .lit (.int .u32 1899447441), .lit (.int .u32 3049323471), .lit (.int .u32 3921009573), .lit (.int .u32 961987163), .lit (.int .u32 1508970993), .lit (.int .u32 2453635748), .lit (.int .u32 2870763221), .lit (.int .u32 3624381080), .lit (.int .u32 310598401), .lit (.int .u32 607225278), .lit (.int .u32 1426881987), .lit (.int .u32 1925078388), .lit (.int .u32 2162078206), .lit (.int .u32 2614888103), .lit (.int .u32 3248222580), .lit (.int .u32 3835390401), .lit (.int .u32 4022224774), .lit (.int .u32 264347078), .lit (.int .u32 604807628), .lit (.int .u32 770255983), .lit (.int .u32 1249150122), .lit (.int .u32 1555081692), .lit (.int .u32 1996064986), .lit (.int .u32 2554220882), .lit (.int .u32 2821834349), .lit (.int .u32 2952996808), .lit (.int .u32 3210313671), .lit (.int .u32 3336571891), .lit (.int .u32 3584528711), .lit (.int .u32 113926993), .lit (.int .u32 338241895), .lit (.int .u32 666307205), .lit (.int .u32 773529912), .lit (.int .u32 1294757372), .lit (.int .u32 1396182291), .lit (.int .u32 1695183700), .lit (.int .u32 1986661051), .lit (.int .u32 2177026350), .lit (.int .u32 2456956037), .lit (.int .u32 2730485921), .lit (.int .u32 2820302411), .lit (.int .u32 3259730800), .lit (.int .u32 3345764771), .lit (.int .u32 3516065817), .lit (.int .u32 3600352804), .lit (.int .u32 4094571909), .lit (.int .u32 275423344), .lit (.int .u32 430227734), .lit (.int .u32 506948616), .lit (.int .u32 659060556), .lit (.int .u32 883997877), .lit (.int .u32 958139571), .lit (.int .u32 1322822218), .lit (.int .u32 1537002063), .lit (.int .u32 1747873779), .lit (.int .u32 1955562222), .lit (.int .u32 2024104815), .lit (.int .u32 2227730452), .lit (.int .u32 2361852424), .lit (.int .u32 2428436474), .lit (.int .u32 2756734187), .lit (.int .u32 3204031479), .lit (.int .u32 3329325298)]
def laid_unicode_utf8_acceptRanges {H : Type} : DataW H := .agg [.agg [.lit (.int .u8 128), .lit (.int .u8 191)], .agg [.lit (.int .u8 160), .lit (.int .u8 191)], .agg [.lit (.int .u8 128), .lit (.int .u8 159)], .agg [.lit (.int .u8 144), .lit (.int .u8 191)], .agg [.lit (.int .u8 128), .lit (.int .u8 143)], .agg [.lit (.int .u8 0), .lit (.int .u8 0)], .agg [.lit (.int .u8 0), .lit (.int .u8 0)], .agg [.lit (.int .u8 0), .lit (.int .u8 0)], .agg [.lit (.int .u8 0), .lit (.int .u8 0)], .agg [.lit (.int .u8 0), .lit (.int .u8 0)], .agg [.lit (.int .u8 0), .lit (.int .u8 0)], .agg [.lit (.int .u8 0), .lit (.int .u8 0)], .agg [.lit (.int .u8 0), .lit (.int .u8 0)], .agg [.lit (.int .u8 0), .lit (.int .u8 0)], .agg [.lit (.int .u8 0), .lit (.int .u8 0)], .agg [.lit (.int .u8 0), .lit (.int .u8 0)]]
def laid_plumbob_label_alphabets {H : Type} : DataW H := .agg [.agg [.lit (.int .i64 1), .lit (.int .i32 97), .lit (.int .i32 122)], .agg [.lit (.int .i64 2), .lit (.int .i32 945), .lit (.int .i32 969)], .agg [.lit (.int .i64 4), .lit (.int .i32 1072), .lit (.int .i32 1103)]]
/-- One of Go's own tables, pinned by name: the form's constant. -/
def laid_unicode_utf8_first : DataW Unit := Go.Pinned.utf8First

/-- 'plumboblaw21.WindowOf': WHATEVER THE INPUT: true; the input reads as it did. -/
def windowOfSpec : ChangeSpec := { name := "windowOf", fn := fun _ => fun
  | [d1, d2, d3] => { results := [.lit (.bool true)], args := [d1, d2, d3] }
  | _ => none }
def windowOfRow : OpenClaim := { program := "ytioahjdojgcfdaadoor", sum := "cc5a08cd159bbaf0da649d0420d79ee8979997f6ba091a4ee97d70acc6be79a4", func := "plumbob/plumboblaw21.WindowOf", spec := "windowOf", named := ["plumbob/sha.start", "plumbob/sha.roots"], apart := false, laid := [("plumbob/sha.start", laid_plumbob_sha_start), ("plumbob/sha.roots", laid_plumbob_sha_roots)] }
def WindowOfSaid : Prop := windowOfRow.holds Tryd.pinned (OpenSpec.ofChange windowOfSpec)

/-- ITS FALSE NEIGHBOUR: 'it returns false'. Refute it at one input. -/
def windowOfWrong : ChangeSpec := { name := "windowOf", fn := fun _ => fun
  | [d1, d2, d3] => { results := [.lit (.bool false)], args := [d1, d2, d3] }
  | _ => none }
def WindowOfWrongFalsely : Prop := windowOfRow.holds Tryd.pinned (OpenSpec.ofChange windowOfWrong)

/-- 'plumboblaw21.WindowMeets': WHATEVER THE INPUT: true; the input reads as it did. -/
def windowMeetsSpec : ChangeSpec := { name := "windowMeets", fn := fun _ => fun
  | [d1, d2, d3] => { results := [.lit (.bool true)], args := [d1, d2, d3] }
  | _ => none }
def windowMeetsRow : OpenClaim := { program := "ytioahjdojgcfdaadoor", sum := "cc5a08cd159bbaf0da649d0420d79ee8979997f6ba091a4ee97d70acc6be79a4", func := "plumbob/plumboblaw21.WindowMeets", spec := "windowMeets", named := ["plumbob/sha.start", "plumbob/sha.roots"], apart := false, laid := [("plumbob/sha.start", laid_plumbob_sha_start), ("plumbob/sha.roots", laid_plumbob_sha_roots)] }
def WindowMeetsSaid : Prop := windowMeetsRow.holds Tryd.pinned (OpenSpec.ofChange windowMeetsSpec)

/-- ITS FALSE NEIGHBOUR: 'it returns false'. Refute it at one input. -/
def windowMeetsWrong : ChangeSpec := { name := "windowMeets", fn := fun _ => fun
  | [d1, d2, d3] => { results := [.lit (.bool false)], args := [d1, d2, d3] }
  | _ => none }
def WindowMeetsWrongFalsely : Prop := windowMeetsRow.holds Tryd.pinned (OpenSpec.ofChange windowMeetsWrong)

/-- 'plumboblaw21.WindowPrefix': WHATEVER THE INPUT: true; the input reads as it did. -/
def windowPrefixSpec : ChangeSpec := { name := "windowPrefix", fn := fun _ => fun
  | [d1, d2] => { results := [.lit (.bool true)], args := [d1, d2] }
  | _ => none }
def windowPrefixRow : OpenClaim := { program := "ytioahjdojgcfdaadoor", sum := "cc5a08cd159bbaf0da649d0420d79ee8979997f6ba091a4ee97d70acc6be79a4", func := "plumbob/plumboblaw21.WindowPrefix", spec := "windowPrefix", named := ["plumbob/sha.start", "plumbob/sha.roots"], apart := false, laid := [("plumbob/sha.start", laid_plumbob_sha_start), ("plumbob/sha.roots", laid_plumbob_sha_roots)] }
def WindowPrefixSaid : Prop := windowPrefixRow.holds Tryd.pinned (OpenSpec.ofChange windowPrefixSpec)

/-- ITS FALSE NEIGHBOUR: 'it returns false'. Refute it at one input. -/
def windowPrefixWrong : ChangeSpec := { name := "windowPrefix", fn := fun _ => fun
  | [d1, d2] => { results := [.lit (.bool false)], args := [d1, d2] }
  | _ => none }
def WindowPrefixWrongFalsely : Prop := windowPrefixRow.holds Tryd.pinned (OpenSpec.ofChange windowPrefixWrong)

/-- 'plumboblaw22.AttestParses': WHATEVER THE INPUT: true; the input reads as it did. -/
def attestParsesSpec : ChangeSpec := { name := "attestParses", fn := fun _ => fun
  | [d1, d2, d3] => { results := [.lit (.bool true)], args := [d1, d2, d3] }
  | _ => none }
def attestParsesRow : OpenClaim := { program := "ytioahjdojgcfdaadoor", sum := "cc5a08cd159bbaf0da649d0420d79ee8979997f6ba091a4ee97d70acc6be79a4", func := "plumbob/plumboblaw22.AttestParses", spec := "attestParses", named := ["plumbob/sha.start", "plumbob/sha.roots"], apart := false, laid := [("plumbob/sha.start", laid_plumbob_sha_start), ("plumbob/sha.roots", laid_plumbob_sha_roots)] }
def AttestParsesSaid : Prop := attestParsesRow.holds Tryd.pinned (OpenSpec.ofChange attestParsesSpec)

/-- ITS FALSE NEIGHBOUR: 'it returns false'. Refute it at one input. -/
def attestParsesWrong : ChangeSpec := { name := "attestParses", fn := fun _ => fun
  | [d1, d2, d3] => { results := [.lit (.bool false)], args := [d1, d2, d3] }
  | _ => none }
def AttestParsesWrongFalsely : Prop := attestParsesRow.holds Tryd.pinned (OpenSpec.ofChange attestParsesWrong)

/-- 'plumboblaw19.HeaderChains': WHATEVER THE INPUT: true; the input reads as it did. -/
def headerChainsSpec : ChangeSpec := { name := "headerChains", fn := fun _ => fun
  | [d1, d2, d3] => { results := [.lit (.bool true)], args := [d1, d2, d3] }
  | _ => none }
def headerChainsRow : OpenClaim := { program := "ytioahjdojgcfdaadoor", sum := "cc5a08cd159bbaf0da649d0420d79ee8979997f6ba091a4ee97d70acc6be79a4", func := "plumbob/plumboblaw19.HeaderChains", spec := "headerChains", unfollowed := true, recurses := true, named := ["plumbob/sha.start", "plumbob/sha.roots"], apart := false, laid := [("plumbob/sha.start", laid_plumbob_sha_start), ("plumbob/sha.roots", laid_plumbob_sha_roots)] }
def HeaderChainsSaid : Prop := headerChainsRow.holds Tryd.pinned (OpenSpec.ofChange headerChainsSpec)

/-- ITS FALSE NEIGHBOUR: 'it returns false'. Refute it at one input. -/
def headerChainsWrong : ChangeSpec := { name := "headerChains", fn := fun _ => fun
  | [d1, d2, d3] => { results := [.lit (.bool false)], args := [d1, d2, d3] }
  | _ => none }
def HeaderChainsWrongFalsely : Prop := headerChainsRow.holds Tryd.pinned (OpenSpec.ofChange headerChainsWrong)

/-- 'plumboblaw20.RosterAdds': WHATEVER THE INPUT: true; the input reads as it did. -/
def rosterAddsSpec : ChangeSpec := { name := "rosterAdds", fn := fun _ => fun
  | [d1, d2] => { results := [.lit (.bool true)], args := [d1, d2] }
  | _ => none }
def rosterAddsRow : OpenClaim := { program := "ytioahjdojgcfdaadoor", sum := "cc5a08cd159bbaf0da649d0420d79ee8979997f6ba091a4ee97d70acc6be79a4", func := "plumbob/plumboblaw20.RosterAdds", spec := "rosterAdds", inPlace := ["internal/bytealg.CountString", "internal/bytealg.IndexByteString", "internal/bytealg.IndexString", "internal/abi.NoEscape", "internal/bytealg.MakeNoZero"], unfollowed := true, recurses := true, named := ["unicode/utf8.first", "unicode/utf8.acceptRanges", "internal/bytealg.MaxLen", "plumbob/label.alphabets"], apart := false, laid := [("unicode/utf8.acceptRanges", laid_unicode_utf8_acceptRanges), ("plumbob/label.alphabets", laid_plumbob_label_alphabets), ("unicode/utf8.first", laid_unicode_utf8_first)] }
def RosterAddsSaid : Prop := rosterAddsRow.holds Tryd.pinned (OpenSpec.ofChange rosterAddsSpec)

/-- ITS FALSE NEIGHBOUR: 'it returns false'. Refute it at one input. -/
def rosterAddsWrong : ChangeSpec := { name := "rosterAdds", fn := fun _ => fun
  | [d1, d2] => { results := [.lit (.bool false)], args := [d1, d2] }
  | _ => none }
def RosterAddsWrongFalsely : Prop := rosterAddsRow.holds Tryd.pinned (OpenSpec.ofChange rosterAddsWrong)

/-- 'plumboblaw20.RosterLays': WHATEVER THE INPUT: true; the input reads as it did. -/
def rosterLaysSpec : ChangeSpec := { name := "rosterLays", fn := fun _ => fun
  | [d1, d2] => { results := [.lit (.bool true)], args := [d1, d2] }
  | _ => none }
def rosterLaysRow : OpenClaim := { program := "ytioahjdojgcfdaadoor", sum := "cc5a08cd159bbaf0da649d0420d79ee8979997f6ba091a4ee97d70acc6be79a4", func := "plumbob/plumboblaw20.RosterLays", spec := "rosterLays", inPlace := ["internal/bytealg.CountString", "internal/bytealg.IndexByteString", "internal/bytealg.IndexString", "internal/abi.NoEscape", "internal/bytealg.MakeNoZero"], unfollowed := true, recurses := true, named := ["unicode/utf8.first", "unicode/utf8.acceptRanges", "internal/bytealg.MaxLen", "plumbob/label.alphabets", "plumbob/sha.start", "plumbob/sha.roots"], apart := false, laid := [("unicode/utf8.acceptRanges", laid_unicode_utf8_acceptRanges), ("plumbob/label.alphabets", laid_plumbob_label_alphabets), ("plumbob/sha.start", laid_plumbob_sha_start), ("plumbob/sha.roots", laid_plumbob_sha_roots), ("unicode/utf8.first", laid_unicode_utf8_first)] }
def RosterLaysSaid : Prop := rosterLaysRow.holds Tryd.pinned (OpenSpec.ofChange rosterLaysSpec)

/-- ITS FALSE NEIGHBOUR: 'it returns false'. Refute it at one input. -/
def rosterLaysWrong : ChangeSpec := { name := "rosterLays", fn := fun _ => fun
  | [d1, d2] => { results := [.lit (.bool false)], args := [d1, d2] }
  | _ => none }
def RosterLaysWrongFalsely : Prop := rosterLaysRow.holds Tryd.pinned (OpenSpec.ofChange rosterLaysWrong)

/- THE SECOND FORM. 'bulk': how many values and letters a reading holds, each counted each time it is reached (what is shared counts as often as it is met; a slice's spare places count too). A statement '..UptoSaid' is the law's where the arguments, and the package variables that the reading takes, are together of bulk at most 1048576: NARROWER than '..Said'. Prove '..Said' where nothing that the law and all that it calls make is longer than what came in: it says more and counts as full. Else prove '..UptoSaid'. A law counts once. -/
mutual
def uptoBulk {H : Type} : DataW H → Nat
  | .lit (.string bytes) => bytes.length + 1
  | .lit _ => 1
  | .nil => 1
  | .ptr d => uptoBulk d + 1
  | .slice elems spare => uptoBulkAll elems + uptoBulkAll spare + 1
  | .agg parts => uptoBulkAll parts + 1
  | .iface _ d => uptoBulk d + 1
  | .map entries => uptoBulkEntries entries + 1
  | .held _ => 1
def uptoBulkAll {H : Type} : List (DataW H) → Nat
  | [] => 0
  | d :: r => uptoBulk d + uptoBulkAll r
def uptoBulkEntries {H : Type} : List (Lit × DataW H) → Nat
  | [] => 0
  | x :: r => uptoBulkEntry x + uptoBulkEntries r
def uptoBulkEntry {H : Type} : Lit × DataW H → Nat
  | (.string bytes, d) => bytes.length + uptoBulk d + 1
  | (_, d) => uptoBulk d + 1
 end
def uptoSmall : (H : Type) → List (DataW H) → Bool := fun _ ds => decide (uptoBulkAll ds ≤ 1048576)
def OpenSpec.upto (s : _root_.Go.ChangeSpec) : _root_.Go.OpenSpec := { _root_.Go.OpenSpec.ofChange s with cond := some uptoSmall }

/-- 'plumboblaw21.WindowOf', WHERE WHAT IT READS IS OF BULK AT MOST 1048576: true; the input reads as it did. -/
def windowOfUptoRow : OpenClaim := { program := "ytioahjdojgcfdaadoor", sum := "cc5a08cd159bbaf0da649d0420d79ee8979997f6ba091a4ee97d70acc6be79a4", func := "plumbob/plumboblaw21.WindowOf", spec := "windowOf", named := ["plumbob/sha.start", "plumbob/sha.roots"], apart := false, laid := [("plumbob/sha.start", laid_plumbob_sha_start), ("plumbob/sha.roots", laid_plumbob_sha_roots)], narrowed := true }
def WindowOfUptoSaid : Prop := windowOfUptoRow.holds Tryd.pinned (OpenSpec.upto windowOfSpec)

/-- 'plumboblaw21.WindowMeets', WHERE WHAT IT READS IS OF BULK AT MOST 1048576: true; the input reads as it did. -/
def windowMeetsUptoRow : OpenClaim := { program := "ytioahjdojgcfdaadoor", sum := "cc5a08cd159bbaf0da649d0420d79ee8979997f6ba091a4ee97d70acc6be79a4", func := "plumbob/plumboblaw21.WindowMeets", spec := "windowMeets", named := ["plumbob/sha.start", "plumbob/sha.roots"], apart := false, laid := [("plumbob/sha.start", laid_plumbob_sha_start), ("plumbob/sha.roots", laid_plumbob_sha_roots)], narrowed := true }
def WindowMeetsUptoSaid : Prop := windowMeetsUptoRow.holds Tryd.pinned (OpenSpec.upto windowMeetsSpec)

/-- 'plumboblaw21.WindowPrefix', WHERE WHAT IT READS IS OF BULK AT MOST 1048576: true; the input reads as it did. -/
def windowPrefixUptoRow : OpenClaim := { program := "ytioahjdojgcfdaadoor", sum := "cc5a08cd159bbaf0da649d0420d79ee8979997f6ba091a4ee97d70acc6be79a4", func := "plumbob/plumboblaw21.WindowPrefix", spec := "windowPrefix", named := ["plumbob/sha.start", "plumbob/sha.roots"], apart := false, laid := [("plumbob/sha.start", laid_plumbob_sha_start), ("plumbob/sha.roots", laid_plumbob_sha_roots)], narrowed := true }
def WindowPrefixUptoSaid : Prop := windowPrefixUptoRow.holds Tryd.pinned (OpenSpec.upto windowPrefixSpec)

/-- 'plumboblaw22.AttestParses', WHERE WHAT IT READS IS OF BULK AT MOST 1048576: true; the input reads as it did. -/
def attestParsesUptoRow : OpenClaim := { program := "ytioahjdojgcfdaadoor", sum := "cc5a08cd159bbaf0da649d0420d79ee8979997f6ba091a4ee97d70acc6be79a4", func := "plumbob/plumboblaw22.AttestParses", spec := "attestParses", named := ["plumbob/sha.start", "plumbob/sha.roots"], apart := false, laid := [("plumbob/sha.start", laid_plumbob_sha_start), ("plumbob/sha.roots", laid_plumbob_sha_roots)], narrowed := true }
def AttestParsesUptoSaid : Prop := attestParsesUptoRow.holds Tryd.pinned (OpenSpec.upto attestParsesSpec)

/-- 'plumboblaw19.HeaderChains', WHERE WHAT IT READS IS OF BULK AT MOST 1048576: true; the input reads as it did. -/
def headerChainsUptoRow : OpenClaim := { program := "ytioahjdojgcfdaadoor", sum := "cc5a08cd159bbaf0da649d0420d79ee8979997f6ba091a4ee97d70acc6be79a4", func := "plumbob/plumboblaw19.HeaderChains", spec := "headerChains", unfollowed := true, recurses := true, named := ["plumbob/sha.start", "plumbob/sha.roots"], apart := false, laid := [("plumbob/sha.start", laid_plumbob_sha_start), ("plumbob/sha.roots", laid_plumbob_sha_roots)], narrowed := true }
def HeaderChainsUptoSaid : Prop := headerChainsUptoRow.holds Tryd.pinned (OpenSpec.upto headerChainsSpec)

/-- 'plumboblaw20.RosterAdds', WHERE WHAT IT READS IS OF BULK AT MOST 1048576: true; the input reads as it did. -/
def rosterAddsUptoRow : OpenClaim := { program := "ytioahjdojgcfdaadoor", sum := "cc5a08cd159bbaf0da649d0420d79ee8979997f6ba091a4ee97d70acc6be79a4", func := "plumbob/plumboblaw20.RosterAdds", spec := "rosterAdds", inPlace := ["internal/bytealg.CountString", "internal/bytealg.IndexByteString", "internal/bytealg.IndexString", "internal/abi.NoEscape", "internal/bytealg.MakeNoZero"], unfollowed := true, recurses := true, named := ["unicode/utf8.first", "unicode/utf8.acceptRanges", "internal/bytealg.MaxLen", "plumbob/label.alphabets"], apart := false, laid := [("unicode/utf8.acceptRanges", laid_unicode_utf8_acceptRanges), ("plumbob/label.alphabets", laid_plumbob_label_alphabets), ("unicode/utf8.first", laid_unicode_utf8_first)], narrowed := true }
def RosterAddsUptoSaid : Prop := rosterAddsUptoRow.holds Tryd.pinned (OpenSpec.upto rosterAddsSpec)

/-- 'plumboblaw20.RosterLays', WHERE WHAT IT READS IS OF BULK AT MOST 1048576: true; the input reads as it did. -/
def rosterLaysUptoRow : OpenClaim := { program := "ytioahjdojgcfdaadoor", sum := "cc5a08cd159bbaf0da649d0420d79ee8979997f6ba091a4ee97d70acc6be79a4", func := "plumbob/plumboblaw20.RosterLays", spec := "rosterLays", inPlace := ["internal/bytealg.CountString", "internal/bytealg.IndexByteString", "internal/bytealg.IndexString", "internal/abi.NoEscape", "internal/bytealg.MakeNoZero"], unfollowed := true, recurses := true, named := ["unicode/utf8.first", "unicode/utf8.acceptRanges", "internal/bytealg.MaxLen", "plumbob/label.alphabets", "plumbob/sha.start", "plumbob/sha.roots"], apart := false, laid := [("unicode/utf8.acceptRanges", laid_unicode_utf8_acceptRanges), ("plumbob/label.alphabets", laid_plumbob_label_alphabets), ("plumbob/sha.start", laid_plumbob_sha_start), ("plumbob/sha.roots", laid_plumbob_sha_roots), ("unicode/utf8.first", laid_unicode_utf8_first)], narrowed := true }
def RosterLaysUptoSaid : Prop := rosterLaysUptoRow.holds Tryd.pinned (OpenSpec.upto rosterLaysSpec)

end Rows
end Go.Proofs.YtioahjdojgcfdaaDoor

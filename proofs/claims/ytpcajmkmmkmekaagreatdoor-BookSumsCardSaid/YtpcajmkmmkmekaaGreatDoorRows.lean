/-
  NARROWER THAN 'FOR EVERY INPUT', by the rows' own cells (each row's printed sentence says how): BookNumbers: laid · BookPrices: laid · BookSums: laid.
  DERIVED. THE GIVEN ROWS OF THIS SEAT. 3 by the template 'for every input the law returns true; each argument reads behind the call as it read before'; 0 by the template 'total and deterministic' (their statements: YtpcajmkmmkmekaaGreatDoorTotals.lean).
  GIVEN WITH THE SEED: the statements are not yours to turn. If you find one false, say at which input.
  Laid BY PROGRAM, IN A SANDBOX (cutbox-rows.mjs): the forced cells as the released guide's own fill.sh prints them over the translation f60617f51ee189fe… (all of the seat's roots in one cut). By AI agents, Wed Nov 11 2026. No macro, syntax, notation, axiom, sorry.
-/
import Derived.Test.YtpcajmkmmkmekaaGreatDoorChecked
import GoSem.Claim
import GoSem.ClaimJoined
import GoSem.ClaimMapViews
import Derived.JoinedTies
import Derived.KernelRfl
namespace Go.Proofs.YtpcajmkmmkmekaaGreatDoor
/- THE CELL 'sum', in the pinned program and in every row, IS THE sha256 OF THE DUMP (.gsa) THAT YtpcajmkmmkmekaaGreatDoorProg.lean LOADS. Nothing in Lean hashes anything: it is a label: what it is worth is what the hold of that sum in a sandbox is worth. -/
noncomputable def Tryz.pinned : Pinned := { name := "ytpcajmkmmkmekaagreatdoor", sum := "f60617f51ee189fe29005cc6320838b1478d89f5ca0ff686c3841cf3fe408b75", checked := Tryz.checked }
namespace Rows
def none {H : Type} : Left H := { results := [], args := [] }

/- WHAT THE LISTED PACKAGE-LEVEL VARIABLES READ AS WHEN THE CALL BEGINS. Each datum BY PROGRAM (the guide's laid-datum.mjs) off the statement by which the dump's own 'gosem.cut.vars' lays the variable. In a bare row this is a premise. The card (YtpcajmkmmkmekaaGreatDoorCards.lean) ties it to the program's text. -/
def laid_wishbook_book_limits {H : Type} : DataW H := .agg [.agg [.lit (.int .i64 1), .lit (.int .i64 24)], .agg [.lit (.int .i64 1), .lit (.int .i64 4)], .agg [.lit (.int .i64 0), .lit (.int .i64 24)], .agg [.lit (.int .i64 0), .lit (.int .i64 20000)], .agg [.lit (.int .i64 1), .lit (.int .i64 9999)], .agg [.lit (.int .i64 1), .lit (.int .i64 8)], .agg [.lit (.int .i64 1), .lit (.int .i64 99)], .agg [.lit (.int .i64 1), .lit (.int .i64 400)], .agg [.lit (.int .i64 1), .lit (.int .i64 100000)], .agg [.lit (.int .i64 0), .lit (.int .i64 3)], .agg [.lit (.int .i64 0), .lit (.int .i64 20)], .agg [.lit (.int .i64 1), .lit (.int .i64 1000)]]

/-- 'wishbooklaw01.BookNumbers': WHATEVER THE INPUT: true; the input reads as it did. -/
def bookNumbersSpec : ChangeSpec := { name := "bookNumbers", fn := fun _ => fun
  | [d1, d2, d3] => { results := [.lit (.bool true)], args := [d1, d2, d3] }
  | _ => none }
def bookNumbersRow : OpenClaim := { program := "ytpcajmkmmkmekaagreatdoor", sum := "f60617f51ee189fe29005cc6320838b1478d89f5ca0ff686c3841cf3fe408b75", func := "wishbook/wishbooklaw01.BookNumbers", spec := "bookNumbers", unfollowed := true, recurses := true, named := ["wishbook/book.limits"], plainKeys := false, apart := false, laid := [("wishbook/book.limits", laid_wishbook_book_limits)] }
def BookNumbersSaid : Prop := bookNumbersRow.holds Tryz.pinned (OpenSpec.ofChange bookNumbersSpec)

/-- ITS FALSE NEIGHBOUR: 'it returns false'. Refute it at one input. -/
def bookNumbersWrong : ChangeSpec := { name := "bookNumbers", fn := fun _ => fun
  | [d1, d2, d3] => { results := [.lit (.bool false)], args := [d1, d2, d3] }
  | _ => none }
def BookNumbersWrongFalsely : Prop := bookNumbersRow.holds Tryz.pinned (OpenSpec.ofChange bookNumbersWrong)

/-- 'wishbooklaw01.BookPrices': WHATEVER THE INPUT: true; the input reads as it did. -/
def bookPricesSpec : ChangeSpec := { name := "bookPrices", fn := fun _ => fun
  | [d1, d2, d3, d4] => { results := [.lit (.bool true)], args := [d1, d2, d3, d4] }
  | _ => none }
def bookPricesRow : OpenClaim := { program := "ytpcajmkmmkmekaagreatdoor", sum := "f60617f51ee189fe29005cc6320838b1478d89f5ca0ff686c3841cf3fe408b75", func := "wishbook/wishbooklaw01.BookPrices", spec := "bookPrices", unfollowed := true, recurses := true, named := ["wishbook/book.limits"], plainKeys := false, apart := false, laid := [("wishbook/book.limits", laid_wishbook_book_limits)] }
def BookPricesSaid : Prop := bookPricesRow.holds Tryz.pinned (OpenSpec.ofChange bookPricesSpec)

/-- ITS FALSE NEIGHBOUR: 'it returns false'. Refute it at one input. -/
def bookPricesWrong : ChangeSpec := { name := "bookPrices", fn := fun _ => fun
  | [d1, d2, d3, d4] => { results := [.lit (.bool false)], args := [d1, d2, d3, d4] }
  | _ => none }
def BookPricesWrongFalsely : Prop := bookPricesRow.holds Tryz.pinned (OpenSpec.ofChange bookPricesWrong)

/-- 'wishbooklaw01.BookSums': WHATEVER THE INPUT: true; the input reads as it did. -/
def bookSumsSpec : ChangeSpec := { name := "bookSums", fn := fun _ => fun
  | [d1, d2, d3] => { results := [.lit (.bool true)], args := [d1, d2, d3] }
  | _ => none }
def bookSumsRow : OpenClaim := { program := "ytpcajmkmmkmekaagreatdoor", sum := "f60617f51ee189fe29005cc6320838b1478d89f5ca0ff686c3841cf3fe408b75", func := "wishbook/wishbooklaw01.BookSums", spec := "bookSums", unfollowed := true, recurses := true, named := ["wishbook/book.limits"], plainKeys := false, apart := false, laid := [("wishbook/book.limits", laid_wishbook_book_limits)] }
def BookSumsSaid : Prop := bookSumsRow.holds Tryz.pinned (OpenSpec.ofChange bookSumsSpec)

/-- ITS FALSE NEIGHBOUR: 'it returns false'. Refute it at one input. -/
def bookSumsWrong : ChangeSpec := { name := "bookSums", fn := fun _ => fun
  | [d1, d2, d3] => { results := [.lit (.bool false)], args := [d1, d2, d3] }
  | _ => none }
def BookSumsWrongFalsely : Prop := bookSumsRow.holds Tryz.pinned (OpenSpec.ofChange bookSumsWrong)

/- THE SECOND FORM. 'bulk': how many values and letters a reading holds, each counted each time it is reached (what is shared counts as often as it is met; a slice's spare places count too). A statement '..UptoSaid' is the law's where the arguments, and the package variables that the reading takes, are together of bulk at most 1048576: NARROWER than '..Said'. Prove '..Said' where nothing that the law and all that it calls make is longer than what came in: it says more and counts as full. Else prove '..UptoSaid'. A law counts once. -/
mutual
def uptoBulk {H : Type} : DataW H → Nat
  | .lit (.string bytes) => bytes.length + 1
  | .lit _ => 1
  | .nil => 1
  | .ptr d => uptoBulk d + 1
  | .slice elems spare => uptoBulkAll elems + uptoBulkAll spare + 1
  | .agg parts => uptoBulkAll parts + 1
  | .iface _ d => uptoBulk d + 1
  | .map entries => uptoBulkEntries entries + 1
  | .held _ => 1
def uptoBulkAll {H : Type} : List (DataW H) → Nat
  | [] => 0
  | d :: r => uptoBulk d + uptoBulkAll r
def uptoBulkEntries {H : Type} : List (Lit × DataW H) → Nat
  | [] => 0
  | x :: r => uptoBulkEntry x + uptoBulkEntries r
def uptoBulkEntry {H : Type} : Lit × DataW H → Nat
  | (.string bytes, d) => bytes.length + uptoBulk d + 1
  | (_, d) => uptoBulk d + 1
 end
def uptoSmall : (H : Type) → List (DataW H) → Bool := fun _ ds => decide (uptoBulkAll ds ≤ 1048576)
def OpenSpec.upto (s : _root_.Go.ChangeSpec) : _root_.Go.OpenSpec := { _root_.Go.OpenSpec.ofChange s with cond := some uptoSmall }

/-- 'wishbooklaw01.BookNumbers', WHERE WHAT IT READS IS OF BULK AT MOST 1048576: true; the input reads as it did. -/
def bookNumbersUptoRow : OpenClaim := { program := "ytpcajmkmmkmekaagreatdoor", sum := "f60617f51ee189fe29005cc6320838b1478d89f5ca0ff686c3841cf3fe408b75", func := "wishbook/wishbooklaw01.BookNumbers", spec := "bookNumbers", unfollowed := true, recurses := true, named := ["wishbook/book.limits"], plainKeys := false, apart := false, laid := [("wishbook/book.limits", laid_wishbook_book_limits)], narrowed := true }
def BookNumbersUptoSaid : Prop := bookNumbersUptoRow.holds Tryz.pinned (OpenSpec.upto bookNumbersSpec)

/-- 'wishbooklaw01.BookPrices', WHERE WHAT IT READS IS OF BULK AT MOST 1048576: true; the input reads as it did. -/
def bookPricesUptoRow : OpenClaim := { program := "ytpcajmkmmkmekaagreatdoor", sum := "f60617f51ee189fe29005cc6320838b1478d89f5ca0ff686c3841cf3fe408b75", func := "wishbook/wishbooklaw01.BookPrices", spec := "bookPrices", unfollowed := true, recurses := true, named := ["wishbook/book.limits"], plainKeys := false, apart := false, laid := [("wishbook/book.limits", laid_wishbook_book_limits)], narrowed := true }
def BookPricesUptoSaid : Prop := bookPricesUptoRow.holds Tryz.pinned (OpenSpec.upto bookPricesSpec)

/-- 'wishbooklaw01.BookSums', WHERE WHAT IT READS IS OF BULK AT MOST 1048576: true; the input reads as it did. -/
def bookSumsUptoRow : OpenClaim := { program := "ytpcajmkmmkmekaagreatdoor", sum := "f60617f51ee189fe29005cc6320838b1478d89f5ca0ff686c3841cf3fe408b75", func := "wishbook/wishbooklaw01.BookSums", spec := "bookSums", unfollowed := true, recurses := true, named := ["wishbook/book.limits"], plainKeys := false, apart := false, laid := [("wishbook/book.limits", laid_wishbook_book_limits)], narrowed := true }
def BookSumsUptoSaid : Prop := bookSumsUptoRow.holds Tryz.pinned (OpenSpec.upto bookSumsSpec)

end Rows
end Go.Proofs.YtpcajmkmmkmekaaGreatDoor

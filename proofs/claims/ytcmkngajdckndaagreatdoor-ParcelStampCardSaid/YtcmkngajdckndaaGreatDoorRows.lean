/-
  NARROWER THAN 'FOR EVERY INPUT', by the rows' own cells (each row's printed sentence says how): ParcelPosts: laid · ParcelCheaps: laid · ParcelStamps: laid · ParcelSends: laid · ParcelOnce: laid · ParcelBig: laid · ParcelMore: laid · ParcelEasier: laid · ParcelStamp: laid · ParcelSend: laid.
  DERIVED. THE GIVEN ROWS OF THIS SEAT. 10 by the template 'for every input the law returns true; each argument reads behind the call as it read before'; 0 by the template 'total and deterministic' (their statements: YtcmkngajdckndaaGreatDoorTotals.lean).
  GIVEN WITH THE SEED: the statements are not yours to turn. If you find one false, say at which input.
  Laid BY PROGRAM, IN A SANDBOX (cutbox-rows.mjs): the forced cells as the released guide's own fill.sh prints them over the translation a1327aee73508d25… (all of the seat's roots in one cut). By AI agents, Wed Nov 11 2026. No macro, syntax, notation, axiom, sorry.
-/
import Derived.Test.YtcmkngajdckndaaGreatDoorChecked
import GoSem.Claim
import GoSem.ClaimJoined
import GoSem.ClaimMapViews
import Derived.JoinedTies
import Derived.KernelRfl
namespace Go.Proofs.YtcmkngajdckndaaGreatDoor
/- THE CELL 'sum', in the pinned program and in every row, IS THE sha256 OF THE DUMP (.gsa) THAT YtcmkngajdckndaaGreatDoorProg.lean LOADS. Nothing in Lean hashes anything: it is a label: what it is worth is what the hold of that sum in a sandbox is worth. -/
noncomputable def Tryz.pinned : Pinned := { name := "ytcmkngajdckndaagreatdoor", sum := "a1327aee73508d25f35f38677cfad6396f51e24ea19a2133f3c5996c13cb6e0f", checked := Tryz.checked }
namespace Rows
def none {H : Type} : Left H := { results := [], args := [] }

/- WHAT THE LISTED PACKAGE-LEVEL VARIABLES READ AS WHEN THE CALL BEGINS. Each datum BY PROGRAM (the guide's laid-datum.mjs) off the statement by which the dump's own 'gosem.cut.vars' lays the variable. In a bare row this is a premise. The card (YtcmkngajdckndaaGreatDoorCards.lean) ties it to the program's text. -/
def laid_wishbook_parcel_limits {H : Type} : DataW H := .agg [.agg [.lit (.int .i64 1), .lit (.int .i64 7)], .agg [.lit (.int .i64 1), .lit (.int .i64 500)], .agg [.lit (.int .i64 1), .lit (.int .i64 5000)], .agg [.lit (.int .i64 0), .lit (.int .i64 10000)], .agg [.lit (.int .i64 1), .lit (.int .i64 4)], .agg [.lit (.int .i64 0), .lit (.int .i64 4)], .agg [.lit (.int .i64 1), .lit (.int .i64 1000)], .agg [.lit (.int .i64 0), .lit (.int .i64 1000)], .agg [.lit (.int .i64 1), .lit (.int .i64 10000)], .agg [.lit (.int .i64 1), .lit (.int .i64 5)], .agg [.lit (.int .i64 0), .lit (.int .i64 20000)]]

/-- 'wishbooklaw06.ParcelPosts': WHATEVER THE INPUT: true; the input reads as it did. -/
def parcelPostsSpec : ChangeSpec := { name := "parcelPosts", fn := fun _ => fun
  | [d1, d2, d3] => { results := [.lit (.bool true)], args := [d1, d2, d3] }
  | _ => none }
def parcelPostsRow : OpenClaim := { program := "ytcmkngajdckndaagreatdoor", sum := "a1327aee73508d25f35f38677cfad6396f51e24ea19a2133f3c5996c13cb6e0f", func := "wishbook/wishbooklaw06.ParcelPosts", spec := "parcelPosts", unfollowed := true, recurses := true, named := ["wishbook/parcel.limits"], plainKeys := false, apart := false, laid := [("wishbook/parcel.limits", laid_wishbook_parcel_limits)] }
def ParcelPostsSaid : Prop := parcelPostsRow.holds Tryz.pinned (OpenSpec.ofChange parcelPostsSpec)

/-- ITS FALSE NEIGHBOUR: 'it returns false'. Refute it at one input. -/
def parcelPostsWrong : ChangeSpec := { name := "parcelPosts", fn := fun _ => fun
  | [d1, d2, d3] => { results := [.lit (.bool false)], args := [d1, d2, d3] }
  | _ => none }
def ParcelPostsWrongFalsely : Prop := parcelPostsRow.holds Tryz.pinned (OpenSpec.ofChange parcelPostsWrong)

/-- 'wishbooklaw06.ParcelCheaps': WHATEVER THE INPUT: true; the input reads as it did. -/
def parcelCheapsSpec : ChangeSpec := { name := "parcelCheaps", fn := fun _ => fun
  | [d1, d2, d3] => { results := [.lit (.bool true)], args := [d1, d2, d3] }
  | _ => none }
def parcelCheapsRow : OpenClaim := { program := "ytcmkngajdckndaagreatdoor", sum := "a1327aee73508d25f35f38677cfad6396f51e24ea19a2133f3c5996c13cb6e0f", func := "wishbook/wishbooklaw06.ParcelCheaps", spec := "parcelCheaps", unfollowed := true, recurses := true, named := ["wishbook/parcel.limits"], plainKeys := false, apart := false, laid := [("wishbook/parcel.limits", laid_wishbook_parcel_limits)] }
def ParcelCheapsSaid : Prop := parcelCheapsRow.holds Tryz.pinned (OpenSpec.ofChange parcelCheapsSpec)

/-- ITS FALSE NEIGHBOUR: 'it returns false'. Refute it at one input. -/
def parcelCheapsWrong : ChangeSpec := { name := "parcelCheaps", fn := fun _ => fun
  | [d1, d2, d3] => { results := [.lit (.bool false)], args := [d1, d2, d3] }
  | _ => none }
def ParcelCheapsWrongFalsely : Prop := parcelCheapsRow.holds Tryz.pinned (OpenSpec.ofChange parcelCheapsWrong)

/-- 'wishbooklaw06.ParcelStamps': WHATEVER THE INPUT: true; the input reads as it did. -/
def parcelStampsSpec : ChangeSpec := { name := "parcelStamps", fn := fun _ => fun
  | [d1, d2] => { results := [.lit (.bool true)], args := [d1, d2] }
  | _ => none }
def parcelStampsRow : OpenClaim := { program := "ytcmkngajdckndaagreatdoor", sum := "a1327aee73508d25f35f38677cfad6396f51e24ea19a2133f3c5996c13cb6e0f", func := "wishbook/wishbooklaw06.ParcelStamps", spec := "parcelStamps", unfollowed := true, recurses := true, named := ["wishbook/parcel.limits"], plainKeys := false, apart := false, laid := [("wishbook/parcel.limits", laid_wishbook_parcel_limits)] }
def ParcelStampsSaid : Prop := parcelStampsRow.holds Tryz.pinned (OpenSpec.ofChange parcelStampsSpec)

/-- ITS FALSE NEIGHBOUR: 'it returns false'. Refute it at one input. -/
def parcelStampsWrong : ChangeSpec := { name := "parcelStamps", fn := fun _ => fun
  | [d1, d2] => { results := [.lit (.bool false)], args := [d1, d2] }
  | _ => none }
def ParcelStampsWrongFalsely : Prop := parcelStampsRow.holds Tryz.pinned (OpenSpec.ofChange parcelStampsWrong)

/-- 'wishbooklaw06.ParcelSends': WHATEVER THE INPUT: true; the input reads as it did. -/
def parcelSendsSpec : ChangeSpec := { name := "parcelSends", fn := fun _ => fun
  | [d1, d2, d3] => { results := [.lit (.bool true)], args := [d1, d2, d3] }
  | _ => none }
def parcelSendsRow : OpenClaim := { program := "ytcmkngajdckndaagreatdoor", sum := "a1327aee73508d25f35f38677cfad6396f51e24ea19a2133f3c5996c13cb6e0f", func := "wishbook/wishbooklaw06.ParcelSends", spec := "parcelSends", unfollowed := true, recurses := true, named := ["wishbook/parcel.limits"], plainKeys := false, apart := false, laid := [("wishbook/parcel.limits", laid_wishbook_parcel_limits)] }
def ParcelSendsSaid : Prop := parcelSendsRow.holds Tryz.pinned (OpenSpec.ofChange parcelSendsSpec)

/-- ITS FALSE NEIGHBOUR: 'it returns false'. Refute it at one input. -/
def parcelSendsWrong : ChangeSpec := { name := "parcelSends", fn := fun _ => fun
  | [d1, d2, d3] => { results := [.lit (.bool false)], args := [d1, d2, d3] }
  | _ => none }
def ParcelSendsWrongFalsely : Prop := parcelSendsRow.holds Tryz.pinned (OpenSpec.ofChange parcelSendsWrong)

/-- 'wishbooklaw06.ParcelOnce': WHATEVER THE INPUT: true; the input reads as it did. -/
def parcelOnceSpec : ChangeSpec := { name := "parcelOnce", fn := fun _ => fun
  | [d1, d2, d3] => { results := [.lit (.bool true)], args := [d1, d2, d3] }
  | _ => none }
def parcelOnceRow : OpenClaim := { program := "ytcmkngajdckndaagreatdoor", sum := "a1327aee73508d25f35f38677cfad6396f51e24ea19a2133f3c5996c13cb6e0f", func := "wishbook/wishbooklaw06.ParcelOnce", spec := "parcelOnce", unfollowed := true, recurses := true, named := ["wishbook/parcel.limits"], plainKeys := false, apart := false, laid := [("wishbook/parcel.limits", laid_wishbook_parcel_limits)] }
def ParcelOnceSaid : Prop := parcelOnceRow.holds Tryz.pinned (OpenSpec.ofChange parcelOnceSpec)

/-- ITS FALSE NEIGHBOUR: 'it returns false'. Refute it at one input. -/
def parcelOnceWrong : ChangeSpec := { name := "parcelOnce", fn := fun _ => fun
  | [d1, d2, d3] => { results := [.lit (.bool false)], args := [d1, d2, d3] }
  | _ => none }
def ParcelOnceWrongFalsely : Prop := parcelOnceRow.holds Tryz.pinned (OpenSpec.ofChange parcelOnceWrong)

/-- 'wishbooklaw06.ParcelBig': WHATEVER THE INPUT: true; the input reads as it did. -/
def parcelBigSpec : ChangeSpec := { name := "parcelBig", fn := fun _ => fun
  | [d1, d2] => { results := [.lit (.bool true)], args := [d1, d2] }
  | _ => none }
def parcelBigRow : OpenClaim := { program := "ytcmkngajdckndaagreatdoor", sum := "a1327aee73508d25f35f38677cfad6396f51e24ea19a2133f3c5996c13cb6e0f", func := "wishbook/wishbooklaw06.ParcelBig", spec := "parcelBig", unfollowed := true, recurses := true, named := ["wishbook/parcel.limits"], plainKeys := false, apart := false, laid := [("wishbook/parcel.limits", laid_wishbook_parcel_limits)] }
def ParcelBigSaid : Prop := parcelBigRow.holds Tryz.pinned (OpenSpec.ofChange parcelBigSpec)

/-- ITS FALSE NEIGHBOUR: 'it returns false'. Refute it at one input. -/
def parcelBigWrong : ChangeSpec := { name := "parcelBig", fn := fun _ => fun
  | [d1, d2] => { results := [.lit (.bool false)], args := [d1, d2] }
  | _ => none }
def ParcelBigWrongFalsely : Prop := parcelBigRow.holds Tryz.pinned (OpenSpec.ofChange parcelBigWrong)

/-- 'wishbooklaw06.ParcelMore': WHATEVER THE INPUT: true; the input reads as it did. -/
def parcelMoreSpec : ChangeSpec := { name := "parcelMore", fn := fun _ => fun
  | [d1, d2] => { results := [.lit (.bool true)], args := [d1, d2] }
  | _ => none }
def parcelMoreRow : OpenClaim := { program := "ytcmkngajdckndaagreatdoor", sum := "a1327aee73508d25f35f38677cfad6396f51e24ea19a2133f3c5996c13cb6e0f", func := "wishbook/wishbooklaw06.ParcelMore", spec := "parcelMore", unfollowed := true, recurses := true, named := ["wishbook/parcel.limits"], plainKeys := false, apart := false, laid := [("wishbook/parcel.limits", laid_wishbook_parcel_limits)] }
def ParcelMoreSaid : Prop := parcelMoreRow.holds Tryz.pinned (OpenSpec.ofChange parcelMoreSpec)

/-- ITS FALSE NEIGHBOUR: 'it returns false'. Refute it at one input. -/
def parcelMoreWrong : ChangeSpec := { name := "parcelMore", fn := fun _ => fun
  | [d1, d2] => { results := [.lit (.bool false)], args := [d1, d2] }
  | _ => none }
def ParcelMoreWrongFalsely : Prop := parcelMoreRow.holds Tryz.pinned (OpenSpec.ofChange parcelMoreWrong)

/-- 'wishbooklaw06.ParcelEasier': WHATEVER THE INPUT: true; the input reads as it did. -/
def parcelEasierSpec : ChangeSpec := { name := "parcelEasier", fn := fun _ => fun
  | [d1, d2] => { results := [.lit (.bool true)], args := [d1, d2] }
  | _ => none }
def parcelEasierRow : OpenClaim := { program := "ytcmkngajdckndaagreatdoor", sum := "a1327aee73508d25f35f38677cfad6396f51e24ea19a2133f3c5996c13cb6e0f", func := "wishbook/wishbooklaw06.ParcelEasier", spec := "parcelEasier", unfollowed := true, recurses := true, named := ["wishbook/parcel.limits"], plainKeys := false, apart := false, laid := [("wishbook/parcel.limits", laid_wishbook_parcel_limits)] }
def ParcelEasierSaid : Prop := parcelEasierRow.holds Tryz.pinned (OpenSpec.ofChange parcelEasierSpec)

/-- ITS FALSE NEIGHBOUR: 'it returns false'. Refute it at one input. -/
def parcelEasierWrong : ChangeSpec := { name := "parcelEasier", fn := fun _ => fun
  | [d1, d2] => { results := [.lit (.bool false)], args := [d1, d2] }
  | _ => none }
def ParcelEasierWrongFalsely : Prop := parcelEasierRow.holds Tryz.pinned (OpenSpec.ofChange parcelEasierWrong)

/-- 'wishbooklaw06.ParcelStamp': WHATEVER THE INPUT: true; the input reads as it did. -/
def parcelStampSpec : ChangeSpec := { name := "parcelStamp", fn := fun _ => fun
  | [d1, d2, d3] => { results := [.lit (.bool true)], args := [d1, d2, d3] }
  | _ => none }
def parcelStampRow : OpenClaim := { program := "ytcmkngajdckndaagreatdoor", sum := "a1327aee73508d25f35f38677cfad6396f51e24ea19a2133f3c5996c13cb6e0f", func := "wishbook/wishbooklaw06.ParcelStamp", spec := "parcelStamp", unfollowed := true, recurses := true, named := ["wishbook/parcel.limits"], plainKeys := false, apart := false, laid := [("wishbook/parcel.limits", laid_wishbook_parcel_limits)] }
def ParcelStampSaid : Prop := parcelStampRow.holds Tryz.pinned (OpenSpec.ofChange parcelStampSpec)

/-- ITS FALSE NEIGHBOUR: 'it returns false'. Refute it at one input. -/
def parcelStampWrong : ChangeSpec := { name := "parcelStamp", fn := fun _ => fun
  | [d1, d2, d3] => { results := [.lit (.bool false)], args := [d1, d2, d3] }
  | _ => none }
def ParcelStampWrongFalsely : Prop := parcelStampRow.holds Tryz.pinned (OpenSpec.ofChange parcelStampWrong)

/-- 'wishbooklaw06.ParcelSend': WHATEVER THE INPUT: true; the input reads as it did. -/
def parcelSendSpec : ChangeSpec := { name := "parcelSend", fn := fun _ => fun
  | [d1, d2] => { results := [.lit (.bool true)], args := [d1, d2] }
  | _ => none }
def parcelSendRow : OpenClaim := { program := "ytcmkngajdckndaagreatdoor", sum := "a1327aee73508d25f35f38677cfad6396f51e24ea19a2133f3c5996c13cb6e0f", func := "wishbook/wishbooklaw06.ParcelSend", spec := "parcelSend", unfollowed := true, recurses := true, named := ["wishbook/parcel.limits"], plainKeys := false, apart := false, laid := [("wishbook/parcel.limits", laid_wishbook_parcel_limits)] }
def ParcelSendSaid : Prop := parcelSendRow.holds Tryz.pinned (OpenSpec.ofChange parcelSendSpec)

/-- ITS FALSE NEIGHBOUR: 'it returns false'. Refute it at one input. -/
def parcelSendWrong : ChangeSpec := { name := "parcelSend", fn := fun _ => fun
  | [d1, d2] => { results := [.lit (.bool false)], args := [d1, d2] }
  | _ => none }
def ParcelSendWrongFalsely : Prop := parcelSendRow.holds Tryz.pinned (OpenSpec.ofChange parcelSendWrong)

/- THE SECOND FORM. 'bulk': how many values and letters a reading holds, each counted each time it is reached (what is shared counts as often as it is met; a slice's spare places count too). A statement '..UptoSaid' is the law's where the arguments, and the package variables that the reading takes, are together of bulk at most 1048576: NARROWER than '..Said'. Prove '..Said' where nothing that the law and all that it calls make is longer than what came in: it says more and counts as full. Else prove '..UptoSaid'. A law counts once. -/
mutual
def uptoBulk {H : Type} : DataW H → Nat
  | .lit (.string bytes) => bytes.length + 1
  | .lit _ => 1
  | .nil => 1
  | .ptr d => uptoBulk d + 1
  | .slice elems spare => uptoBulkAll elems + uptoBulkAll spare + 1
  | .agg parts => uptoBulkAll parts + 1
  | .iface _ d => uptoBulk d + 1
  | .map entries => uptoBulkEntries entries + 1
  | .held _ => 1
def uptoBulkAll {H : Type} : List (DataW H) → Nat
  | [] => 0
  | d :: r => uptoBulk d + uptoBulkAll r
def uptoBulkEntries {H : Type} : List (Lit × DataW H) → Nat
  | [] => 0
  | x :: r => uptoBulkEntry x + uptoBulkEntries r
def uptoBulkEntry {H : Type} : Lit × DataW H → Nat
  | (.string bytes, d) => bytes.length + uptoBulk d + 1
  | (_, d) => uptoBulk d + 1
 end
def uptoSmall : (H : Type) → List (DataW H) → Bool := fun _ ds => decide (uptoBulkAll ds ≤ 1048576)
def OpenSpec.upto (s : _root_.Go.ChangeSpec) : _root_.Go.OpenSpec := { _root_.Go.OpenSpec.ofChange s with cond := some uptoSmall }

/-- 'wishbooklaw06.ParcelPosts', WHERE WHAT IT READS IS OF BULK AT MOST 1048576: true; the input reads as it did. -/
def parcelPostsUptoRow : OpenClaim := { program := "ytcmkngajdckndaagreatdoor", sum := "a1327aee73508d25f35f38677cfad6396f51e24ea19a2133f3c5996c13cb6e0f", func := "wishbook/wishbooklaw06.ParcelPosts", spec := "parcelPosts", unfollowed := true, recurses := true, named := ["wishbook/parcel.limits"], plainKeys := false, apart := false, laid := [("wishbook/parcel.limits", laid_wishbook_parcel_limits)], narrowed := true }
def ParcelPostsUptoSaid : Prop := parcelPostsUptoRow.holds Tryz.pinned (OpenSpec.upto parcelPostsSpec)

/-- 'wishbooklaw06.ParcelCheaps', WHERE WHAT IT READS IS OF BULK AT MOST 1048576: true; the input reads as it did. -/
def parcelCheapsUptoRow : OpenClaim := { program := "ytcmkngajdckndaagreatdoor", sum := "a1327aee73508d25f35f38677cfad6396f51e24ea19a2133f3c5996c13cb6e0f", func := "wishbook/wishbooklaw06.ParcelCheaps", spec := "parcelCheaps", unfollowed := true, recurses := true, named := ["wishbook/parcel.limits"], plainKeys := false, apart := false, laid := [("wishbook/parcel.limits", laid_wishbook_parcel_limits)], narrowed := true }
def ParcelCheapsUptoSaid : Prop := parcelCheapsUptoRow.holds Tryz.pinned (OpenSpec.upto parcelCheapsSpec)

/-- 'wishbooklaw06.ParcelStamps', WHERE WHAT IT READS IS OF BULK AT MOST 1048576: true; the input reads as it did. -/
def parcelStampsUptoRow : OpenClaim := { program := "ytcmkngajdckndaagreatdoor", sum := "a1327aee73508d25f35f38677cfad6396f51e24ea19a2133f3c5996c13cb6e0f", func := "wishbook/wishbooklaw06.ParcelStamps", spec := "parcelStamps", unfollowed := true, recurses := true, named := ["wishbook/parcel.limits"], plainKeys := false, apart := false, laid := [("wishbook/parcel.limits", laid_wishbook_parcel_limits)], narrowed := true }
def ParcelStampsUptoSaid : Prop := parcelStampsUptoRow.holds Tryz.pinned (OpenSpec.upto parcelStampsSpec)

/-- 'wishbooklaw06.ParcelSends', WHERE WHAT IT READS IS OF BULK AT MOST 1048576: true; the input reads as it did. -/
def parcelSendsUptoRow : OpenClaim := { program := "ytcmkngajdckndaagreatdoor", sum := "a1327aee73508d25f35f38677cfad6396f51e24ea19a2133f3c5996c13cb6e0f", func := "wishbook/wishbooklaw06.ParcelSends", spec := "parcelSends", unfollowed := true, recurses := true, named := ["wishbook/parcel.limits"], plainKeys := false, apart := false, laid := [("wishbook/parcel.limits", laid_wishbook_parcel_limits)], narrowed := true }
def ParcelSendsUptoSaid : Prop := parcelSendsUptoRow.holds Tryz.pinned (OpenSpec.upto parcelSendsSpec)

/-- 'wishbooklaw06.ParcelOnce', WHERE WHAT IT READS IS OF BULK AT MOST 1048576: true; the input reads as it did. -/
def parcelOnceUptoRow : OpenClaim := { program := "ytcmkngajdckndaagreatdoor", sum := "a1327aee73508d25f35f38677cfad6396f51e24ea19a2133f3c5996c13cb6e0f", func := "wishbook/wishbooklaw06.ParcelOnce", spec := "parcelOnce", unfollowed := true, recurses := true, named := ["wishbook/parcel.limits"], plainKeys := false, apart := false, laid := [("wishbook/parcel.limits", laid_wishbook_parcel_limits)], narrowed := true }
def ParcelOnceUptoSaid : Prop := parcelOnceUptoRow.holds Tryz.pinned (OpenSpec.upto parcelOnceSpec)

/-- 'wishbooklaw06.ParcelBig', WHERE WHAT IT READS IS OF BULK AT MOST 1048576: true; the input reads as it did. -/
def parcelBigUptoRow : OpenClaim := { program := "ytcmkngajdckndaagreatdoor", sum := "a1327aee73508d25f35f38677cfad6396f51e24ea19a2133f3c5996c13cb6e0f", func := "wishbook/wishbooklaw06.ParcelBig", spec := "parcelBig", unfollowed := true, recurses := true, named := ["wishbook/parcel.limits"], plainKeys := false, apart := false, laid := [("wishbook/parcel.limits", laid_wishbook_parcel_limits)], narrowed := true }
def ParcelBigUptoSaid : Prop := parcelBigUptoRow.holds Tryz.pinned (OpenSpec.upto parcelBigSpec)

/-- 'wishbooklaw06.ParcelMore', WHERE WHAT IT READS IS OF BULK AT MOST 1048576: true; the input reads as it did. -/
def parcelMoreUptoRow : OpenClaim := { program := "ytcmkngajdckndaagreatdoor", sum := "a1327aee73508d25f35f38677cfad6396f51e24ea19a2133f3c5996c13cb6e0f", func := "wishbook/wishbooklaw06.ParcelMore", spec := "parcelMore", unfollowed := true, recurses := true, named := ["wishbook/parcel.limits"], plainKeys := false, apart := false, laid := [("wishbook/parcel.limits", laid_wishbook_parcel_limits)], narrowed := true }
def ParcelMoreUptoSaid : Prop := parcelMoreUptoRow.holds Tryz.pinned (OpenSpec.upto parcelMoreSpec)

/-- 'wishbooklaw06.ParcelEasier', WHERE WHAT IT READS IS OF BULK AT MOST 1048576: true; the input reads as it did. -/
def parcelEasierUptoRow : OpenClaim := { program := "ytcmkngajdckndaagreatdoor", sum := "a1327aee73508d25f35f38677cfad6396f51e24ea19a2133f3c5996c13cb6e0f", func := "wishbook/wishbooklaw06.ParcelEasier", spec := "parcelEasier", unfollowed := true, recurses := true, named := ["wishbook/parcel.limits"], plainKeys := false, apart := false, laid := [("wishbook/parcel.limits", laid_wishbook_parcel_limits)], narrowed := true }
def ParcelEasierUptoSaid : Prop := parcelEasierUptoRow.holds Tryz.pinned (OpenSpec.upto parcelEasierSpec)

/-- 'wishbooklaw06.ParcelStamp', WHERE WHAT IT READS IS OF BULK AT MOST 1048576: true; the input reads as it did. -/
def parcelStampUptoRow : OpenClaim := { program := "ytcmkngajdckndaagreatdoor", sum := "a1327aee73508d25f35f38677cfad6396f51e24ea19a2133f3c5996c13cb6e0f", func := "wishbook/wishbooklaw06.ParcelStamp", spec := "parcelStamp", unfollowed := true, recurses := true, named := ["wishbook/parcel.limits"], plainKeys := false, apart := false, laid := [("wishbook/parcel.limits", laid_wishbook_parcel_limits)], narrowed := true }
def ParcelStampUptoSaid : Prop := parcelStampUptoRow.holds Tryz.pinned (OpenSpec.upto parcelStampSpec)

/-- 'wishbooklaw06.ParcelSend', WHERE WHAT IT READS IS OF BULK AT MOST 1048576: true; the input reads as it did. -/
def parcelSendUptoRow : OpenClaim := { program := "ytcmkngajdckndaagreatdoor", sum := "a1327aee73508d25f35f38677cfad6396f51e24ea19a2133f3c5996c13cb6e0f", func := "wishbook/wishbooklaw06.ParcelSend", spec := "parcelSend", unfollowed := true, recurses := true, named := ["wishbook/parcel.limits"], plainKeys := false, apart := false, laid := [("wishbook/parcel.limits", laid_wishbook_parcel_limits)], narrowed := true }
def ParcelSendUptoSaid : Prop := parcelSendUptoRow.holds Tryz.pinned (OpenSpec.upto parcelSendSpec)

end Rows
end Go.Proofs.YtcmkngajdckndaaGreatDoor

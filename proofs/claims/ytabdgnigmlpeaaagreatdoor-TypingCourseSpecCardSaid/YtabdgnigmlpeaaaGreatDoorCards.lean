/-
  DERIVED. GIVEN WITH THE SEED: THE CARDS: each row of YtabdgnigmlpeaaaGreatDoorRows.lean that lists a variable, with what it lists TIED to the program's text (the seventh form; the later family's looks); each row that meets fmt, with fmt's text TOLD by the authors' own Lean function (tested against real Go, not proved from fmt's source: count such statements apart). THE CARD IS WHAT COUNTS. Prove the row's statement (the work); the ties are given (YtabdgnigmlpeaaaGreatDoorTie.lean); close each card by the builder's one call (the guide's Derived/Test/ToyasCard.lean, 'card_holds'). Laid BY PROGRAM, IN A SANDBOX (cutbox-door.mjs). By AI agents, Wed Nov 11 2026. No macro, syntax, notation, axiom, sorry.
-/
import Derived.Test.YtabdgnigmlpeaaaGreatDoorRows
import GoSem.ClaimSeven
namespace Go.Proofs.YtabdgnigmlpeaaaGreatDoor
namespace Rows

/-- THE TIED CARD OF 'stopwatchlaw07.TypingCourseSpec'. -/
def typingCourseSpecCard : Claim7 := { stood := { row := typingCourseSpecRow, standIns := [], harness := (true, "56934530fcb83544410803d465c91f654407c20a11a4974a8f64f1d1a27a3b6d"), looks := true }, kinds := [], alts := [], laidByText := true, laidKinds := [.data, .pinned], laidTests := true, laidLooks := .later }
def TypingCourseSpecCardSaid : Prop := Claim7.holds Tryz.pinned (.plain (OpenSpec.ofChange typingCourseSpecSpec)) typingCourseSpecCard

/-- THE TIED CARD OF 'stopwatchlaw07.TypingCondSpec'. -/
def typingCondSpecCard : Claim7 := { stood := { row := typingCondSpecRow, standIns := [], harness := (true, "56934530fcb83544410803d465c91f654407c20a11a4974a8f64f1d1a27a3b6d"), looks := true }, kinds := [], alts := [], laidByText := true, laidKinds := [.data, .pinned], laidTests := true, laidLooks := .later }
def TypingCondSpecCardSaid : Prop := Claim7.holds Tryz.pinned (.plain (OpenSpec.ofChange typingCondSpecSpec)) typingCondSpecCard

/-- THE TIED CARD OF 'stopwatchlaw07.TypingDirectSpec'. -/
def typingDirectSpecCard : Claim7 := { stood := { row := typingDirectSpecRow, standIns := [], harness := (true, "56934530fcb83544410803d465c91f654407c20a11a4974a8f64f1d1a27a3b6d"), looks := true }, kinds := [], alts := [], laidByText := true, laidKinds := [.data, .pinned], laidTests := true, laidLooks := .later }
def TypingDirectSpecCardSaid : Prop := Claim7.holds Tryz.pinned (.plain (OpenSpec.ofChange typingDirectSpecSpec)) typingDirectSpecCard

/-- THE TIED CARD OF 'stopwatchlaw07.TypingLogic'. -/
def typingLogicCard : Claim7 := { stood := { row := typingLogicRow, standIns := [], harness := (true, "56934530fcb83544410803d465c91f654407c20a11a4974a8f64f1d1a27a3b6d"), looks := true }, kinds := [], alts := [], laidByText := true, laidKinds := [.data, .pinned], laidTests := true, laidLooks := .later }
def TypingLogicCardSaid : Prop := Claim7.holds Tryz.pinned (.plain (OpenSpec.ofChange typingLogicSpec)) typingLogicCard

/-- THE TIED CARD OF 'stopwatchlaw07.TypingOnce'. -/
def typingOnceCard : Claim7 := { stood := { row := typingOnceRow, standIns := [], harness := (true, "56934530fcb83544410803d465c91f654407c20a11a4974a8f64f1d1a27a3b6d"), looks := true }, kinds := [], alts := [], laidByText := true, laidKinds := [.data, .pinned], laidTests := true, laidLooks := .later }
def TypingOnceCardSaid : Prop := Claim7.holds Tryz.pinned (.plain (OpenSpec.ofChange typingOnceSpec)) typingOnceCard

/-- THE TIED CARD OF 'stopwatchlaw07.TypingRoutes'. -/
def typingRoutesCard : Claim7 := { stood := { row := typingRoutesRow, standIns := [], harness := (true, "56934530fcb83544410803d465c91f654407c20a11a4974a8f64f1d1a27a3b6d"), looks := true }, kinds := [], alts := [], laidByText := true, laidKinds := [.data, .pinned], laidTests := true, laidLooks := .later }
def TypingRoutesCardSaid : Prop := Claim7.holds Tryz.pinned (.plain (OpenSpec.ofChange typingRoutesSpec)) typingRoutesCard

/-- THE TIED CARD OF 'stopwatchlaw07.TypingLess'. -/
def typingLessCard : Claim7 := { stood := { row := typingLessRow, standIns := [], harness := (true, "56934530fcb83544410803d465c91f654407c20a11a4974a8f64f1d1a27a3b6d"), looks := true }, kinds := [], alts := [], laidByText := true, laidKinds := [.data, .pinned], laidTests := true, laidLooks := .later }
def TypingLessCardSaid : Prop := Claim7.holds Tryz.pinned (.plain (OpenSpec.ofChange typingLessSpec)) typingLessCard

/-- THE SECOND FORM's CARD OF 'stopwatchlaw07.TypingCourseSpec'. -/
def typingCourseSpecUptoCard : Claim7 := { stood := { row := typingCourseSpecUptoRow, standIns := [], harness := (true, "56934530fcb83544410803d465c91f654407c20a11a4974a8f64f1d1a27a3b6d"), looks := true }, kinds := [], alts := [], laidByText := true, laidKinds := [.data, .pinned], laidTests := true, laidLooks := .later }
def TypingCourseSpecUptoCardSaid : Prop := Claim7.holds Tryz.pinned (.plain (OpenSpec.upto typingCourseSpecSpec)) typingCourseSpecUptoCard

/-- THE SECOND FORM's CARD OF 'stopwatchlaw07.TypingCondSpec'. -/
def typingCondSpecUptoCard : Claim7 := { stood := { row := typingCondSpecUptoRow, standIns := [], harness := (true, "56934530fcb83544410803d465c91f654407c20a11a4974a8f64f1d1a27a3b6d"), looks := true }, kinds := [], alts := [], laidByText := true, laidKinds := [.data, .pinned], laidTests := true, laidLooks := .later }
def TypingCondSpecUptoCardSaid : Prop := Claim7.holds Tryz.pinned (.plain (OpenSpec.upto typingCondSpecSpec)) typingCondSpecUptoCard

/-- THE SECOND FORM's CARD OF 'stopwatchlaw07.TypingDirectSpec'. -/
def typingDirectSpecUptoCard : Claim7 := { stood := { row := typingDirectSpecUptoRow, standIns := [], harness := (true, "56934530fcb83544410803d465c91f654407c20a11a4974a8f64f1d1a27a3b6d"), looks := true }, kinds := [], alts := [], laidByText := true, laidKinds := [.data, .pinned], laidTests := true, laidLooks := .later }
def TypingDirectSpecUptoCardSaid : Prop := Claim7.holds Tryz.pinned (.plain (OpenSpec.upto typingDirectSpecSpec)) typingDirectSpecUptoCard

/-- THE SECOND FORM's CARD OF 'stopwatchlaw07.TypingLogic'. -/
def typingLogicUptoCard : Claim7 := { stood := { row := typingLogicUptoRow, standIns := [], harness := (true, "56934530fcb83544410803d465c91f654407c20a11a4974a8f64f1d1a27a3b6d"), looks := true }, kinds := [], alts := [], laidByText := true, laidKinds := [.data, .pinned], laidTests := true, laidLooks := .later }
def TypingLogicUptoCardSaid : Prop := Claim7.holds Tryz.pinned (.plain (OpenSpec.upto typingLogicSpec)) typingLogicUptoCard

/-- THE SECOND FORM's CARD OF 'stopwatchlaw07.TypingOnce'. -/
def typingOnceUptoCard : Claim7 := { stood := { row := typingOnceUptoRow, standIns := [], harness := (true, "56934530fcb83544410803d465c91f654407c20a11a4974a8f64f1d1a27a3b6d"), looks := true }, kinds := [], alts := [], laidByText := true, laidKinds := [.data, .pinned], laidTests := true, laidLooks := .later }
def TypingOnceUptoCardSaid : Prop := Claim7.holds Tryz.pinned (.plain (OpenSpec.upto typingOnceSpec)) typingOnceUptoCard

/-- THE SECOND FORM's CARD OF 'stopwatchlaw07.TypingRoutes'. -/
def typingRoutesUptoCard : Claim7 := { stood := { row := typingRoutesUptoRow, standIns := [], harness := (true, "56934530fcb83544410803d465c91f654407c20a11a4974a8f64f1d1a27a3b6d"), looks := true }, kinds := [], alts := [], laidByText := true, laidKinds := [.data, .pinned], laidTests := true, laidLooks := .later }
def TypingRoutesUptoCardSaid : Prop := Claim7.holds Tryz.pinned (.plain (OpenSpec.upto typingRoutesSpec)) typingRoutesUptoCard

/-- THE SECOND FORM's CARD OF 'stopwatchlaw07.TypingLess'. -/
def typingLessUptoCard : Claim7 := { stood := { row := typingLessUptoRow, standIns := [], harness := (true, "56934530fcb83544410803d465c91f654407c20a11a4974a8f64f1d1a27a3b6d"), looks := true }, kinds := [], alts := [], laidByText := true, laidKinds := [.data, .pinned], laidTests := true, laidLooks := .later }
def TypingLessUptoCardSaid : Prop := Claim7.holds Tryz.pinned (.plain (OpenSpec.upto typingLessSpec)) typingLessUptoCard
end Rows
end Go.Proofs.YtabdgnigmlpeaaaGreatDoor

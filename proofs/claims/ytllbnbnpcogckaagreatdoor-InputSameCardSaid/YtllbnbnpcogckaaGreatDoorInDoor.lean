/-
  WHAT THE ROWS OF LAYER 16 SHARE: the world of their witness; what their list gives.
-/
import Derived.Test.YtllbnbnpcogckaaGreatDoorNDoor
import Derived.Test.YtllbnbnpcogckaaGreatDoorInW1
namespace Go.Proofs.YtllbnbnpcogckaaGreatDoor.InDoor
open Go.ChangeShapes Go.WideShapes Go.ChangeAt Go.RowKit

theorem own : ownKnob Tryz.prog.godebug = none := NDoor.own
noncomputable def laidWorld (os : Os) : World := NDoor.laidWorld os
/-- WHAT THE ROW's LIST GIVES: the table of powers of ten holds them; MaxLen holds some int. -/
theorem facts {W : World} (h : laidMet Tryz.prog NDoor.laid5 W) (hS : W.ShapedOpen Tryz.prog) : Gi W := ⟨NDoor.facts h hS, Tryz.laysM145.s1_3 W hS⟩
end Go.Proofs.YtllbnbnpcogckaaGreatDoor.InDoor

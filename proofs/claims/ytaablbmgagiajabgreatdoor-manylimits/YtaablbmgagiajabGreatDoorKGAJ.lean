import Derived.Deep.RegionWith
import Derived.Deep.QuietTactic
import Derived.BigQuiet
import Derived.Deep.CutRange
import Derived.BigRegion
import Derived.Deep.RegionHeld3
import Derived.Maps.OwnSet
import Derived.Test.YtaablbmgagiajabGreatDoorKGAI
namespace Go.Proofs.YtaablbmgagiajabGreatDoor
open Go.RowKit Go.Deep
def stN (S : St) (j : Nat) : Int := if j = 0 then (S.set : Int) else if j < 9 then ((S.used (j - 1) : Nat) : Int) else S.idle (j - 9)
end Go.Proofs.YtaablbmgagiajabGreatDoor

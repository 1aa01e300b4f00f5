import Derived.OwnWalk
import Derived.Laws.OwnMore
import Derived.Test.YtaablbmgagiajabGreatDoorKGAB
import Derived.Laws.CopyOwn
import Derived.Deep.RegionHeld3
import Derived.BigRegion
import Derived.OrdersHeld
import Derived.Laws.BytesArg
import Derived.Laws.Strings
import Derived.Deep.AppendLies
namespace Go.Proofs.YtaablbmgagiajabGreatDoor
open Go.RowKit Go.Deep
def ints (l : List Int) : List Value := l.map (Value.int .i64)
end Go.Proofs.YtaablbmgagiajabGreatDoor
namespace Go.Proofs.YtaablbmgagiajabGreatDoor
def b3 (n : Nat) : List Nat := [n / 65536 % 256, n / 256 % 256, n % 256]
def b4 (n : Nat) : List Nat := [n / 16777216 % 256, n / 65536 % 256, n / 256 % 256, n % 256]
def bytesN (l : List Int) : List Nat := l.flatMap fun x => b3 x.toNat
def withSum (l : List Nat) : List Nat := l ++ b4 (crc l).toNat
def encF (F : Nat → Int) : List Nat := withSum (bytesN (numsF F))
end Go.Proofs.YtaablbmgagiajabGreatDoor
namespace Go.Proofs.YtaablbmgagiajabGreatDoor
open Go.RowKit Go.Deep
def num3 (l : List Nat) (i : Nat) : Nat := l[3 * i]?.getD 0 * 65536 + l[3 * i + 1]?.getD 0 * 256 + l[3 * i + 2]?.getD 0
def readN (l : List Nat) (k : Nat) : List Int := (List.range k).map fun i => ((num3 l i : Nat) : Int)
def readF (l : List Nat) : List Int := readN l (l.length / 3)
end Go.Proofs.YtaablbmgagiajabGreatDoor

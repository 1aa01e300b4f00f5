import Derived.Deep.QuietTactic
import Derived.BigQuiet
import Derived.Test.YtaablbmgagiajabGreatDoorKGAE
namespace Go.Proofs.YtaablbmgagiajabGreatDoor
open Go.RowKit Go.Deep
def stCells (S : St) : Array Value := #[.int .i64 (S.set : Int), .int .i64 (S.used 0 : Int), .int .i64 (S.used 1 : Int), .int .i64 (S.used 2 : Int), .int .i64 (S.used 3 : Int), .int .i64 (S.used 4 : Int), .int .i64 (S.used 5 : Int), .int .i64 (S.used 6 : Int), .int .i64 (S.used 7 : Int),
  .int .i64 (S.idle 0), .int .i64 (S.idle 1), .int .i64 (S.idle 2), .int .i64 (S.idle 3), .int .i64 (S.idle 4), .int .i64 (S.idle 5), .int .i64 (S.idle 6), .int .i64 (S.idle 7)]
def rt (zs : List Int) (i : Nat) : Nat := (zs[i]?.getD 0).toNat
end Go.Proofs.YtaablbmgagiajabGreatDoor

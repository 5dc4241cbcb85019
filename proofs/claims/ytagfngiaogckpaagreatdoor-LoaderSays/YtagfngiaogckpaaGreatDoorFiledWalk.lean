/- What Filed returns, for every row of acts that are few and not too long: both files, alike; memory that was there stays as it was. -/
import Derived.Test.YtagfngiaogckpaaGreatDoorBothAt
namespace Go.Proofs.YtagfngiaogckpaaGreatDoor
open Go.RowKit Go.Maps
end Go.Proofs.YtagfngiaogckpaaGreatDoor

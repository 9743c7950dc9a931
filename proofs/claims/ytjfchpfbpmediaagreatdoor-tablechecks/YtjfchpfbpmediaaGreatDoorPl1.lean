/-
  Plain: a number's last digits, by its decimal text and by division.
-/
import Derived.Lib.ItoaNum
import Derived.Lib.Strings
namespace Go.Proofs.YtjfchpfbpmediaaGreatDoor.Plu
open Go.Lib
end Go.Proofs.YtjfchpfbpmediaaGreatDoor.Plu

/-
  Two tokens are held against each other.
-/
import Derived.Test.YtlpjealcmnnbnaaGreatDoorTokL
namespace Go.Proofs.YtlpjealcmnnbnaaGreatDoor.Tk

instance decAtt : DecidableEq Att := @instDecidableEqProd _ _ inferInstance inferInstance
instance decTok : DecidableEq Tok := @instDecidableEqProd _ _ inferInstance (@instDecidableEqProd _ _ inferInstance (@instDecidableEqProd _ _ inferInstance (@instDecidableEqProd _ _ inferInstance inferInstance)))
instance decTokA : DecidableEq (Nat × Tok) := @instDecidableEqProd _ _ inferInstance decTok
end Go.Proofs.YtlpjealcmnnbnaaGreatDoor.Tk

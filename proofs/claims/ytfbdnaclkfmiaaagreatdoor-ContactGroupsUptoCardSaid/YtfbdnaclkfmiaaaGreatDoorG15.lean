import Derived.Test.YtfbdnaclkfmiaaaGreatDoorG14
/- what is reached of it -/
namespace Go.Proofs.YtfbdnaclkfmiaaaGreatDoor.Vc
open Go.Lib Tx
def Good (l : List UInt8) : Prop := clean l ∧ valid l = true
end Go.Proofs.YtfbdnaclkfmiaaaGreatDoor.Vc

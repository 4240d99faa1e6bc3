import Derived.Test.YtfbdnaclkfmiaaaGreatDoorB14
namespace Go.Proofs.YtfbdnaclkfmiaaaGreatDoor.Vc
open Go.Lib Tx
def Good (l:List UInt8):Prop:=clean l∧valid l=true
end Go.Proofs.YtfbdnaclkfmiaaaGreatDoor.Vc
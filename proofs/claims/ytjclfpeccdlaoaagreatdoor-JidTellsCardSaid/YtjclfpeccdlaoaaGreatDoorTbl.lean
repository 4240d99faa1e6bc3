/-
  THE DOCUMENT's TABLES OF CHARACTERS, as plain lists. Nothing of any program.
-/
import Derived.Test.YtjclfpeccdlaoaaGreatDoorRng
namespace Go.Proofs.YtjclfpeccdlaoaaGreatDoor
open Rg

def lettersL : List R := [(65, 90), (97, 122), (192, 214), (216, 246), (248, 591), (880, 1327), (19968, 40959)]
def bannedL : List R := [(0, 31), (127, 160), (5760, 5760), (8192, 8202), (8232, 8239), (8287, 8287), (12288, 12288), (57344, 63743), (65533, 65535), (917504, 917631), (983040, 1114111)]
def rightLeftL : List R := [(1424, 1535), (1536, 1791), (64285, 64335)]
def goneL : List R := [(173, 173), (847, 847), (6150, 6150), (8203, 8205), (8288, 8288), (65024, 65039), (65279, 65279)]
end Go.Proofs.YtjclfpeccdlaoaaGreatDoor

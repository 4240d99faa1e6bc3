import Derived.Test.YtpaehhlhngilcaaM02
import Derived.Test.YtpaehhlhngilcaaM17
import Derived.Lib.MapLaws
section
/- what is reached of it -/
namespace Go.Proofs.Ytpaehhlhngilcaa
open Rg
def lettersL : List R := [(65, 90), (97, 122), (192, 214), (216, 246), (248, 591), (880, 1327), (19968, 40959)]
def bannedL : List R := [(0, 31), (127, 160), (5760, 5760), (8192, 8202), (8232, 8239), (8287, 8287), (12288, 12288), (57344, 63743), (65533, 65535), (917504, 917631), (983040, 1114111)]
def rightLeftL : List R := [(1424, 1535), (1536, 1791), (64285, 64335)]
def goneL : List R := [(173, 173), (847, 847), (6150, 6150), (8203, 8205), (8288, 8288), (65024, 65039), (65279, 65279)]
end Go.Proofs.Ytpaehhlhngilcaa
end
section
/- what is reached of it -/
namespace Go.Proofs.Ytpaehhlhngilcaa.Pr
open Go.Proofs.Ytpaehhlhngilcaa Rg Tx
def gone (c : Nat) : Bool := inL goneL c
def rl (c : Nat) : Bool := inL rightLeftL c
def letter (c : Nat) : Bool := inL lettersL c
/-- what a name of a user may not have beside what is banned -/
def besideBL : List R := [(32, 32), (34, 34), (38, 39), (47, 47), (58, 58), (60, 60), (62, 62), (64, 64)]
/-- what a name of a host may have beside letters -/
def besideLL : List R := [(45, 46), (48, 57)]
def capital (c : Nat) : Bool := decide (65 ≤ c) && decide (c ≤ 90) || decide (192 ≤ c) && decide (c ≤ 222) && !(c == 215)
/-- What a character becomes, in a name without capitals. -/
def small (c : Nat) : List Nat := if c = 223 then [115, 115] else if capital c then [c + 32] else [c]
def put (all : Bool) (c : Nat) : List Nat := if all then small c else [c]
def one (all : Bool) (c : Nat) : List Nat := if gone c then [] else put all c
def mapL (all : Bool) (l : List Nat) : List Nat := l.flatMap (one all)
/-- May the character not stand there? 1: a user's name, 2: a host's, 3: a resource. -/
def wrong : Nat → Nat → Bool
  | 1, c => inL bannedL c || inL besideBL c
  | 2, c => !(inL lettersL c || inL rightLeftL c || inL besideLL c)
  | _, c => inL bannedL c
/-- Is the way right? -/
def wayB (l : List Nat) : Bool := !(l.any rl) || (rl (l.headD 0) && rl (l.getLastD 0) && !(l.any letter))
/-- Are all kept? -/
def prepC (k : Nat) (l : List Nat) : List UInt8 × Nat := if l.any (wrong k) then ([], 15) else if wayB l then (flat l, 0) else ([], 16)
/-- A text as it is kept, or why not. -/
def prepL (k : Nat) (s : List UInt8) : List UInt8 × Nat := if valid s then prepC k (mapL (k != 3) (runes s)) else ([], 3)

theorem prepL_good {k : Nat} {s : List UInt8} (h : valid s = true) : prepL k s = prepC k (mapL (k != 3) (runes s)) := by unfold prepL; rw [h]; rfl
theorem prepC_kept {k : Nat} {l : List Nat} (h : l.any (wrong k) = false) (h2 : wayB l = true) : prepC k l = (flat l, 0) := by unfold prepC; rw [h, h2]; rfl
theorem prepL_ch {k : Nat} {s : List UInt8} {l : List Nat} (h : ch s = some l) : prepL k s = prepC k (mapL (k != 3) l) := by rw [prepL_good (valid_some h), runes_some h]

/-- It stays as it is. -/
def Stays (all : Bool) (c : Nat) : Prop := one all c = [c]
/-- A character that a text may have. -/
def Fine (c : Nat) : Prop := sane c ∧ okc c = true
theorem okc_of {c : Nat} (h : 32 ≤ c) (h2 : c < 65534) : okc c = true := by
  rw [okc_eq]
  simp
  omega
theorem ch_fine {l : List Nat} (h : ∀ c ∈ l, Fine c) : ch (flat l) = some l := by
  induction l with
  | nil => rw [flat_nil]; exact ch_nil
  | cons c l ih =>
    have hc := h c (List.mem_cons_self ..)
    rw [show c :: l = [c] ++ l from rfl, flat_append, flat_one]
    have := ch_append (b := flat l) (ch_enc hc.1 hc.2)
    rw [ih (fun d hd => h d (List.mem_cons_of_mem _ hd))] at this
    exact this
theorem mapL_stays {all : Bool} {l : List Nat} (h : ∀ c ∈ l, Stays all c) : mapL all l = l := by
  induction l with
  | nil => rfl
  | cons c l ih =>
    have hc : one all c = [c] := h c (List.mem_cons_self ..)
    have h2 := ih (fun d hd => h d (List.mem_cons_of_mem _ hd))
    unfold mapL at h2 ⊢
    rw [List.flatMap_cons, hc, h2]
    rfl
end Go.Proofs.Ytpaehhlhngilcaa.Pr
end

import Derived.Test.YtfbdnaclkfmiaaaGreatDoorB21
import Derived.Test.YtfbdnaclkfmiaaaGreatDoorB14
import Derived.Deep.RegionWith
import Derived.Deep.RegionLaw
import Derived.Deep.QuietTactic
import Derived.BigQuiet
import Derived.Test.YtfbdnaclkfmiaaaGreatDoorB24
section
namespace Go.Proofs.YtfbdnaclkfmiaaaGreatDoor
open Go.RowKit Vc Ct
def fieldO:Nat→Nat
  | 0=>0
  | 2=>3
  | 4=>5
  | 5=>6
  | 7=>7
  | _=>8
theorem grown_setD (w:World) {g:Nat} (o:Nat) (u:Value) (row:Nat) (hr:row=g:=by rfl):w.grownBy ((w.setCell ⟨g,o,none⟩ u).drew) (some row):=by
  subst hr
  have h:=grown_set (w:=w) (b:=row) (o:=o) u
  exact⟨h.os,h.tape,h.output,h.size,h.block⟩
set_option maxHeartbeats 1000000 in
theorem field_any {i:Nat} (hi:i < 9) (ht:isT i=true) (g:Nat) (w:World):Calls Tryz.prog (fieldF i) #[.pointer (some ⟨g,0,none⟩)] w fun e w'=>e=.returned (.pointer (some ⟨g,fieldO i,none⟩))∧w'=w:=by
  rcases kcases hi with rfl | rfl | rfl | rfl | rfl | rfl | rfl | rfl | rfl
  · show Calls Tryz.prog 65 _ _ _
    go_enter Tryz.func65,Tryz.ntmps65
    go_wp2_with fail
    go_ret
    exact⟨rfl,rfl⟩
  · cases ht
  · show Calls Tryz.prog 68 _ _ _
    go_enter Tryz.func68,Tryz.ntmps68
    go_wp2_with fail
    go_ret
    exact⟨rfl,rfl⟩
  · cases ht
  · show Calls Tryz.prog 71 _ _ _
    go_enter Tryz.func71,Tryz.ntmps71
    go_wp2_with fail
    go_ret
    exact⟨rfl,rfl⟩
  · show Calls Tryz.prog 72 _ _ _
    go_enter Tryz.func72,Tryz.ntmps72
    go_wp2_with fail
    go_ret
    exact⟨rfl,rfl⟩
  · cases ht
  · show Calls Tryz.prog 75 _ _ _
    go_enter Tryz.func75,Tryz.ntmps75
    go_wp2_with fail
    go_ret
    exact⟨rfl,rfl⟩
  · show Calls Tryz.prog 76 _ _ _
    go_enter Tryz.func76,Tryz.ntmps76
    go_wp2_with fail
    go_ret
    exact⟨rfl,rfl⟩
def PutV (g:Nat) (c:Con) (gv o:Value) (W:World) (e:Ending) (W':World):Prop:=e=.returned (.int .i64 0)∧Bk W' g 25 (conCells c gv o)∧W.grownBy W' (some g)
set_option maxHeartbeats 1000000 in
theorem putText0 (b:Nat) (g:Nat) (c:Con) (gv o:Value) (ta:Addr) (cap:Nat) (x:List UInt8) (W:World) (hk:Bk W g 25 (conCells c gv o)) (hb:Bk W b 103 #[.func (.func (fieldF 0)) #[] #[]]) (hx:W.cell? ta=some (.string (bts x))) :
    Calls Tryz.prog 105 #[.pointer (some ⟨g,0,none⟩),.slice (some ta) 1 cap,.pointer (some ⟨b,0,none⟩)] W (PutV g (setC (kname 0) x c) gv o W):=by
  have hb0:W.cell? ⟨b,0,none⟩=some (.func (.func 65) #[] #[]):=hb.cell 0
  obtain⟨X,hX⟩:∃ X,bts x=X:=⟨_,rfl⟩
  have HS:Hid ((conCells c gv o).setIfInBounds 0 (.string X)=conCells (setC (kname 0) x c) gv o):=by rw[← hX];rfl
  have HC:Hid (∀ w,Calls Tryz.prog 65 #[.pointer (some ⟨g,0,none⟩)] w fun e w'=>e=.returned (.pointer (some ⟨g,0,none⟩))∧w'=w):=fun w=>field_any (i:=0) (by omega) rfl g w
  rw[hX] at hx
  have HK:=Lib.hid hk
  have hfz:W.frozen? ⟨g,0,none⟩=false:=hk.free 0
  have hcl:W.cell? ⟨g,0,none⟩=some (.string (bts c.name)):=hk.cell 0
  clear hk hX
  go_enter Tryz.func105,Tryz.ntmps105
  go_wp2_with fail
  go_region_with ((go_at_call 65;refine(HC.out _).mono ?_;rintro e w1 ⟨rfl,rfl⟩))
  all_goals
    go_wp2_with fail
    go_ret
    have k9:=HK.out.put 0 (.string X)
    rw[HS.out] at k9
    exact⟨rfl,k9,grown_setD _ 0 _ g⟩
set_option maxHeartbeats 1000000 in
theorem putText2 (b:Nat) (g:Nat) (c:Con) (gv o:Value) (ta:Addr) (cap:Nat) (x:List UInt8) (W:World) (hk:Bk W g 25 (conCells c gv o)) (hb:Bk W b 103 #[.func (.func (fieldF 2)) #[] #[]]) (hx:W.cell? ta=some (.string (bts x))) :
    Calls Tryz.prog 105 #[.pointer (some ⟨g,0,none⟩),.slice (some ta) 1 cap,.pointer (some ⟨b,0,none⟩)] W (PutV g (setC (kname 2) x c) gv o W):=by
  have hb0:W.cell? ⟨b,0,none⟩=some (.func (.func 68) #[] #[]):=hb.cell 0
  obtain⟨X,hX⟩:∃ X,bts x=X:=⟨_,rfl⟩
  have HS:Hid ((conCells c gv o).setIfInBounds 3 (.string X)=conCells (setC (kname 2) x c) gv o):=by rw[← hX];rfl
  have HC:Hid (∀ w,Calls Tryz.prog 68 #[.pointer (some ⟨g,0,none⟩)] w fun e w'=>e=.returned (.pointer (some ⟨g,3,none⟩))∧w'=w):=fun w=>field_any (i:=2) (by omega) rfl g w
  rw[hX] at hx
  have HK:=Lib.hid hk
  have hfz:W.frozen? ⟨g,3,none⟩=false:=hk.free 3
  have hcl:W.cell? ⟨g,3,none⟩=some (.string (bts c.nick)):=hk.cell 3
  clear hk hX
  go_enter Tryz.func105,Tryz.ntmps105
  go_wp2_with fail
  go_region_with ((go_at_call 68;refine(HC.out _).mono ?_;rintro e w1 ⟨rfl,rfl⟩))
  all_goals
    go_wp2_with fail
    go_ret
    have k9:=HK.out.put 3 (.string X)
    rw[HS.out] at k9
    exact⟨rfl,k9,grown_setD _ 3 _ g⟩
set_option maxHeartbeats 1000000 in
theorem putText4 (b:Nat) (g:Nat) (c:Con) (gv o:Value) (ta:Addr) (cap:Nat) (x:List UInt8) (W:World) (hk:Bk W g 25 (conCells c gv o)) (hb:Bk W b 103 #[.func (.func (fieldF 4)) #[] #[]]) (hx:W.cell? ta=some (.string (bts x))) :
    Calls Tryz.prog 105 #[.pointer (some ⟨g,0,none⟩),.slice (some ta) 1 cap,.pointer (some ⟨b,0,none⟩)] W (PutV g (setC (kname 4) x c) gv o W):=by
  have hb0:W.cell? ⟨b,0,none⟩=some (.func (.func 71) #[] #[]):=hb.cell 0
  obtain⟨X,hX⟩:∃ X,bts x=X:=⟨_,rfl⟩
  have HS:Hid ((conCells c gv o).setIfInBounds 5 (.string X)=conCells (setC (kname 4) x c) gv o):=by rw[← hX];rfl
  have HC:Hid (∀ w,Calls Tryz.prog 71 #[.pointer (some ⟨g,0,none⟩)] w fun e w'=>e=.returned (.pointer (some ⟨g,5,none⟩))∧w'=w):=fun w=>field_any (i:=4) (by omega) rfl g w
  rw[hX] at hx
  have HK:=Lib.hid hk
  have hfz:W.frozen? ⟨g,5,none⟩=false:=hk.free 5
  have hcl:W.cell? ⟨g,5,none⟩=some (.string (bts c.email)):=hk.cell 5
  clear hk hX
  go_enter Tryz.func105,Tryz.ntmps105
  go_wp2_with fail
  go_region_with ((go_at_call 71;refine(HC.out _).mono ?_;rintro e w1 ⟨rfl,rfl⟩))
  all_goals
    go_wp2_with fail
    go_ret
    have k9:=HK.out.put 5 (.string X)
    rw[HS.out] at k9
    exact⟨rfl,k9,grown_setD _ 5 _ g⟩
set_option maxHeartbeats 1000000 in
theorem putText5 (b:Nat) (g:Nat) (c:Con) (gv o:Value) (ta:Addr) (cap:Nat) (x:List UInt8) (W:World) (hk:Bk W g 25 (conCells c gv o)) (hb:Bk W b 103 #[.func (.func (fieldF 5)) #[] #[]]) (hx:W.cell? ta=some (.string (bts x))) :
    Calls Tryz.prog 105 #[.pointer (some ⟨g,0,none⟩),.slice (some ta) 1 cap,.pointer (some ⟨b,0,none⟩)] W (PutV g (setC (kname 5) x c) gv o W):=by
  have hb0:W.cell? ⟨b,0,none⟩=some (.func (.func 72) #[] #[]):=hb.cell 0
  obtain⟨X,hX⟩:∃ X,bts x=X:=⟨_,rfl⟩
  have HS:Hid ((conCells c gv o).setIfInBounds 6 (.string X)=conCells (setC (kname 5) x c) gv o):=by rw[← hX];rfl
  have HC:Hid (∀ w,Calls Tryz.prog 72 #[.pointer (some ⟨g,0,none⟩)] w fun e w'=>e=.returned (.pointer (some ⟨g,6,none⟩))∧w'=w):=fun w=>field_any (i:=5) (by omega) rfl g w
  rw[hX] at hx
  have HK:=Lib.hid hk
  have hfz:W.frozen? ⟨g,6,none⟩=false:=hk.free 6
  have hcl:W.cell? ⟨g,6,none⟩=some (.string (bts c.tel)):=hk.cell 6
  clear hk hX
  go_enter Tryz.func105,Tryz.ntmps105
  go_wp2_with fail
  go_region_with ((go_at_call 72;refine(HC.out _).mono ?_;rintro e w1 ⟨rfl,rfl⟩))
  all_goals
    go_wp2_with fail
    go_ret
    have k9:=HK.out.put 6 (.string X)
    rw[HS.out] at k9
    exact⟨rfl,k9,grown_setD _ 6 _ g⟩
set_option maxHeartbeats 1000000 in
theorem putText7 (b:Nat) (g:Nat) (c:Con) (gv o:Value) (ta:Addr) (cap:Nat) (x:List UInt8) (W:World) (hk:Bk W g 25 (conCells c gv o)) (hb:Bk W b 103 #[.func (.func (fieldF 7)) #[] #[]]) (hx:W.cell? ta=some (.string (bts x))) :
    Calls Tryz.prog 105 #[.pointer (some ⟨g,0,none⟩),.slice (some ta) 1 cap,.pointer (some ⟨b,0,none⟩)] W (PutV g (setC (kname 7) x c) gv o W):=by
  have hb0:W.cell? ⟨b,0,none⟩=some (.func (.func 75) #[] #[]):=hb.cell 0
  obtain⟨X,hX⟩:∃ X,bts x=X:=⟨_,rfl⟩
  have HS:Hid ((conCells c gv o).setIfInBounds 7 (.string X)=conCells (setC (kname 7) x c) gv o):=by rw[← hX];rfl
  have HC:Hid (∀ w,Calls Tryz.prog 75 #[.pointer (some ⟨g,0,none⟩)] w fun e w'=>e=.returned (.pointer (some ⟨g,7,none⟩))∧w'=w):=fun w=>field_any (i:=7) (by omega) rfl g w
  rw[hX] at hx
  have HK:=Lib.hid hk
  have hfz:W.frozen? ⟨g,7,none⟩=false:=hk.free 7
  have hcl:W.cell? ⟨g,7,none⟩=some (.string (bts c.note)):=hk.cell 7
  clear hk hX
  go_enter Tryz.func105,Tryz.ntmps105
  go_wp2_with fail
  go_region_with ((go_at_call 75;refine(HC.out _).mono ?_;rintro e w1 ⟨rfl,rfl⟩))
  all_goals
    go_wp2_with fail
    go_ret
    have k9:=HK.out.put 7 (.string X)
    rw[HS.out] at k9
    exact⟨rfl,k9,grown_setD _ 7 _ g⟩
set_option maxHeartbeats 1000000 in
theorem putText8 (b:Nat) (g:Nat) (c:Con) (gv o:Value) (ta:Addr) (cap:Nat) (x:List UInt8) (W:World) (hk:Bk W g 25 (conCells c gv o)) (hb:Bk W b 103 #[.func (.func (fieldF 8)) #[] #[]]) (hx:W.cell? ta=some (.string (bts x))) :
    Calls Tryz.prog 105 #[.pointer (some ⟨g,0,none⟩),.slice (some ta) 1 cap,.pointer (some ⟨b,0,none⟩)] W (PutV g (setC (kname 8) x c) gv o W):=by
  have hb0:W.cell? ⟨b,0,none⟩=some (.func (.func 76) #[] #[]):=hb.cell 0
  obtain⟨X,hX⟩:∃ X,bts x=X:=⟨_,rfl⟩
  have HS:Hid ((conCells c gv o).setIfInBounds 8 (.string X)=conCells (setC (kname 8) x c) gv o):=by rw[← hX];rfl
  have HC:Hid (∀ w,Calls Tryz.prog 76 #[.pointer (some ⟨g,0,none⟩)] w fun e w'=>e=.returned (.pointer (some ⟨g,8,none⟩))∧w'=w):=fun w=>field_any (i:=8) (by omega) rfl g w
  rw[hX] at hx
  have HK:=Lib.hid hk
  have hfz:W.frozen? ⟨g,8,none⟩=false:=hk.free 8
  have hcl:W.cell? ⟨g,8,none⟩=some (.string (bts c.uid)):=hk.cell 8
  clear hk hX
  go_enter Tryz.func105,Tryz.ntmps105
  go_wp2_with fail
  go_region_with ((go_at_call 76;refine(HC.out _).mono ?_;rintro e w1 ⟨rfl,rfl⟩))
  all_goals
    go_wp2_with fail
    go_ret
    have k9:=HK.out.put 8 (.string X)
    rw[HS.out] at k9
    exact⟨rfl,k9,grown_setD _ 8 _ g⟩
theorem putText_any {i:Nat} (hi:i < 9) (ht:isT i=true) (b:Nat) (g:Nat) (c:Con) (gv o:Value) (ta:Addr) (cap:Nat) (x:List UInt8) (W:World) (hk:Bk W g 25 (conCells c gv o)) (hb:Bk W b 103 #[.func (.func (fieldF i)) #[] #[]]) (hx:W.cell? ta=some (.string (bts x))) :
    Calls Tryz.prog 105 #[.pointer (some ⟨g,0,none⟩),.slice (some ta) 1 cap,.pointer (some ⟨b,0,none⟩)] W (PutV g (setC (kname i) x c) gv o W):=by
  rcases kcases hi with rfl | rfl | rfl | rfl | rfl | rfl | rfl | rfl | rfl
  · exact putText0 b g c gv o ta cap x W hk hb hx
  · cases ht
  · exact putText2 b g c gv o ta cap x W hk hb hx
  · cases ht
  · exact putText4 b g c gv o ta cap x W hk hb hx
  · exact putText5 b g c gv o ta cap x W hk hb hx
  · cases ht
  · exact putText7 b g c gv o ta cap x W hk hb hx
  · exact putText8 b g c gv o ta cap x W hk hb hx
end Go.Proofs.YtfbdnaclkfmiaaaGreatDoor
end
section
namespace Go.Proofs.YtfbdnaclkfmiaaaGreatDoor
open Go.RowKit Rg Tx
theorem empty_true {a:ByteArray} (h:a.data.toList=[]):a=⟨#[]⟩:=bytes_of h
theorem text_both {l r:ByteArray} (d:ByteArray) (h:l.data.toList≠[]) (h2:r.data.toList≠[]):Jd.textL (l.data.toList,d.data.toList,r.data.toList)=l.data.toList++[64]++d.data.toList++([47]++r.data.toList):=by
  unfold Jd.textL
  simp only
  rw[if_neg h,if_neg h2]
theorem text_loc {l:ByteArray} (d:ByteArray) (h:l.data.toList≠[]):Jd.textL (l.data.toList,d.data.toList,[])=l.data.toList++[64]++d.data.toList:=by
  have e:Jd.textL (l.data.toList,d.data.toList,[])=(if l.data.toList=[] then d.data.toList else l.data.toList++[64]++d.data.toList)++[]:=rfl
  rw[e,if_neg h,List.append_nil]
theorem text_res {r:ByteArray} (d:ByteArray) (h2:r.data.toList≠[]):Jd.textL ([],d.data.toList,r.data.toList)=d.data.toList++([47]++r.data.toList):=by
  have e:Jd.textL ([],d.data.toList,r.data.toList)=d.data.toList++(if r.data.toList=[] then [] else [47]++r.data.toList):=rfl
  rw[e,if_neg h2]
theorem text_dom (d:ByteArray):Jd.textL ([],d.data.toList,[])=d.data.toList:=by
  have e:Jd.textL ([],d.data.toList,[])=d.data.toList++[]:=rfl
  rw[e,List.append_nil]
set_option maxHeartbeats 4000000 in
theorem text_any (l d r:ByteArray) (w:World) (hl:l.size≤1000000) (hd:d.size≤1000000) (hr:r.size≤1000000) :
    Calls Tryz.prog 124 #[.agg #[.string l,.string d,.string r]] w fun e w'=>e=.returned (.string (btj (Jd.textL (l.data.toList,d.data.toList,r.data.toList))))∧Below w.heap.size w w':=by
  have hb1:Below w.heap.size w (w.alloc (.cells #[.string l,.string d,.string r] 139)):=(Below.refl _ w).alloc (Nat.le_refl _) _
  have HB:=Lib.hid hb1
  clear hb1
  by_cases h1:l.data.toList=[]
  · obtain rfl:=empty_true h1
    by_cases h2:r.data.toList=[]
    · obtain rfl:=empty_true h2
      have HF:=Lib.hid (text_dom d)
      clear h1 h2
      go_enter Tryz.func124,Tryz.ntmps124
      go_wp2_with fail
      go_ret
      exact⟨ret_str (bytes_of HF.out.symm),HB.out⟩
    · have e2:=empty_false h2
      have HF:=Lib.hid (text_res d h2)
      clear h1 h2
      go_enter Tryz.func124,Tryz.ntmps124
      go_wp2_with fail
      go_ret
      exact⟨ret_str (bytes_of (by rw[cat_list,cat_list];exact HF.out.symm)),HB.out⟩
  · have e1:=empty_false h1
    by_cases h2:r.data.toList=[]
    · obtain rfl:=empty_true h2
      have HF:=Lib.hid (text_loc d h1)
      clear h1 h2
      go_enter Tryz.func124,Tryz.ntmps124
      go_wp2_with fail
      go_ret
      exact⟨ret_str (bytes_of (by rw[cat_list,cat_list];exact HF.out.symm)),HB.out⟩
    · have e2:=empty_false h2
      have HF:=Lib.hid (text_both d h1 h2)
      clear h1 h2
      go_enter Tryz.func124,Tryz.ntmps124
      go_wp2_with fail
      go_ret
      exact⟨ret_str (bytes_of (by rw[cat_list,cat_list,cat_list,cat_list];exact HF.out.symm)),HB.out⟩
set_option maxHeartbeats 4000000 in
theorem rtext_any (l d r:ByteArray) (w:World) (hl:l.size≤1000000) (hd:d.size≤1000000) (hr:r.size≤1000000) :
    Calls Tryz.prog 117 #[.agg #[.string l,.string d,.string r]] w fun e w'=>e=.returned (.string (btj (Jd.textL (l.data.toList,d.data.toList,r.data.toList))))∧Below w.heap.size w w':=by
  have hb1:Below w.heap.size w (w.alloc (.cells #[.string l,.string d,.string r] 139)):=(Below.refl _ w).alloc (Nat.le_refl _) _
  have HB:=Lib.hid hb1
  clear hb1
  by_cases h1:l.data.toList=[]
  · obtain rfl:=empty_true h1
    by_cases h2:r.data.toList=[]
    · obtain rfl:=empty_true h2
      have HF:=Lib.hid (text_dom d)
      clear h1 h2
      go_enter Tryz.func117,Tryz.ntmps117
      go_wp2_with fail
      go_ret
      exact⟨ret_str (bytes_of HF.out.symm),HB.out⟩
    · have e2:=empty_false h2
      have HF:=Lib.hid (text_res d h2)
      clear h1 h2
      go_enter Tryz.func117,Tryz.ntmps117
      go_wp2_with fail
      go_ret
      exact⟨ret_str (bytes_of (by rw[cat_list,cat_list,List.append_assoc];exact HF.out.symm)),HB.out⟩
  · have e1:=empty_false h1
    by_cases h2:r.data.toList=[]
    · obtain rfl:=empty_true h2
      have HF:=Lib.hid (text_loc d h1)
      clear h1 h2
      go_enter Tryz.func117,Tryz.ntmps117
      go_wp2_with fail
      go_ret
      exact⟨ret_str (bytes_of (by rw[cat_list,cat_list];exact HF.out.symm)),HB.out⟩
    · have e2:=empty_false h2
      have HF:=Lib.hid (text_both d h1 h2)
      clear h1 h2
      go_enter Tryz.func117,Tryz.ntmps117
      go_wp2_with fail
      go_ret
      exact⟨ret_str (bytes_of (by rw[cat_list,cat_list,cat_list,cat_list,List.append_assoc (l.data.toList++[64]++d.data.toList)];exact HF.out.symm)),HB.out⟩
theorem jidnV_of {s:Gat}:jidnV s=.tuple #[.agg #[.string (btj s.1.1),.string (btj s.1.2.1),.string (btj s.1.2.2)],.int .i64 (s.2:Nat)]:=rfl
set_option maxHeartbeats 4000000 in
theorem bare_any (s:ByteArray) (w:World) (hO:Okw w) (hs:s.size≤100000000) :
    Calls Tryz.prog 95 #[.string s] w fun e w'=>e=.returned (twoV (Jd.bareL s.data.toList))∧Below w.heap.size w w':=by
  have HP:=Lib.hid (parse_any s w hO hs)
  obtain⟨p,hp⟩:∃ p,Jd.parseL s.data.toList=p:=⟨_,rfl⟩
  have hlen:=Jd.parse_len (s:=s.data.toList) (j:=p.1)
  have hok:=Jd.bare_ok (s:=s.data.toList) (j:=p.1)
  have hres:=Jd.bare_res (s:=s.data.toList) (j:=p.1)
  have hbad:=Jd.bare_bad (s:=s.data.toList)
  rw[hp] at HP hlen hok hres hbad
  rw[jidnV_of] at HP
  clear hp hO hs
  obtain⟨l,hl⟩:∃ l,btj p.1.1=l:=⟨_,rfl⟩
  obtain⟨d,hd⟩:∃ d,btj p.1.2.1=d:=⟨_,rfl⟩
  obtain⟨r,hr⟩:∃ r,btj p.1.2.2=r:=⟨_,rfl⟩
  have dl:l.data.toList=p.1.1:=by rw[← hl]
  have dd:d.data.toList=p.1.2.1:=by rw[← hd]
  have dr:r.data.toList=p.1.2.2:=by rw[← hr]
  rw[hl,hd,hr] at HP
  by_cases h0:p.2=0
  · have e0:p=(p.1,0):=Prod.ext rfl h0
    obtain⟨z1,z2,z3⟩:=hlen e0
    rw[h0] at HP
    by_cases h1:p.1.2.2=[]
    · have HF:=Lib.hid (hok e0 h1)
      have hre:r=⟨#[]⟩:=empty_true (by rw[dr];exact h1)
      subst hre
      have HT:=Lib.hid (fun W=>text_any l d ⟨#[]⟩ W (by rw[Lib.size_eq,dl];omega) (by rw[Lib.size_eq,dd];omega) (by decide))
      have e3:(l.data.toList,d.data.toList,(⟨#[]⟩:ByteArray).data.toList)=p.1:=by rw[dl,dd];exact Prod.ext rfl (Prod.ext rfl h1.symm)
      rw[e3] at HT
      rw[show twoV (Jd.bareL s.data.toList)=.tuple #[.string (btj (Jd.textL p.1)),.int .i64 0] from by rw[HF.out];rfl]
      obtain⟨x,hx⟩:∃ x,btj (Jd.textL p.1)=x:=⟨_,rfl⟩
      rw[hx] at HT ⊢
      clear hlen hok hres hbad hl hd hr dl dd dr e0 z1 z2 z3 h0 h1 HF e3 hx
      go_enter Tryz.func95,Tryz.ntmps95
      go_wp2_with fail
      refine HP.out.mono ?_
      rintro e w1 ⟨rfl,b1⟩
      have hb1:Below w.heap.size w (w1.alloc (.cells #[.string l,.string d,.string ⟨#[]⟩] 139)):=b1.alloc b1.size _
      have B1:=Lib.hid hb1
      clear b1 hb1
      go_wp2_with fail
      refine(HT.out _).mono ?_
      rintro e w2 ⟨rfl,b2⟩
      have B2:=Lib.hid (B1.out.trans (b2.mono B1.out.size))
      clear b2
      go_wp2_with fail
      go_ret2
      exact⟨rfl,B2.out⟩
    · have HF:=Lib.hid (hres e0 h1)
      have hne:=empty_false (a:=r) (by rw[dr];exact h1)
      rw[show twoV (Jd.bareL s.data.toList)=.tuple #[.string ⟨#[]⟩,.int .i64 14] from by rw[HF.out];rfl]
      clear hlen hok hres hbad hl hd hr dl dd dr e0 z1 z2 z3 h0 h1 HF
      go_enter Tryz.func95,Tryz.ntmps95
      go_wp2_with fail
      refine HP.out.mono ?_
      rintro e w1 ⟨rfl,b1⟩
      have hb1:Below w.heap.size w (w1.alloc (.cells #[.string l,.string d,.string r] 139)):=b1.alloc b1.size _
      have B1:=Lib.hid hb1
      clear b1 hb1
      go_wp2_with fail
      go_ret2
      exact⟨rfl,B1.out⟩
  · have HF:=Lib.hid (hbad h0)
    rw[show twoV (Jd.bareL s.data.toList)=.tuple #[.string ⟨#[]⟩,.int .i64 (p.2:Nat)] from by rw[HF.out];rfl]
    obtain⟨n,hn⟩:∃ n:Int,((p.2:Nat):Int)=n:=⟨_,rfl⟩
    rw[hn] at HP ⊢
    have hn0:n≠0:=by omega
    have hnB:(n != 0)=true:=by simpa using hn0
    clear hlen hok hres hbad hl hd hr dl dd dr h0 HF hn
    go_enter Tryz.func95,Tryz.ntmps95
    go_wp2_with fail
    refine HP.out.mono ?_
    rintro e w1 ⟨rfl,b1⟩
    have hb1:Below w.heap.size w (w1.alloc (.cells #[.string l,.string d,.string r] 139)):=b1.alloc b1.size _
    have B1:=Lib.hid hb1
    clear b1 hb1
    go_wp2_with fail
    go_ret2
    exact⟨rfl,B1.out⟩
end Go.Proofs.YtfbdnaclkfmiaaaGreatDoor
end
section
namespace Go.Proofs.YtfbdnaclkfmiaaaGreatDoor
open Go.RowKit Vc Ct
theorem emptyB {l:List UInt8}:(bts l).toList.isEmpty=decide (l=[]):=by
  rw[ByteArray.toList_mk]
  cases l<;>rfl
def PutE (g:Nat) (r:Nat × Con) (gv o:Value) (W:World) (e:Ending) (W':World):Prop:=e=.returned (.int .i64 (r.1:Nat))∧(r.1=0→Bk W' g 25 (conCells r.2 gv o))∧W.grownBy W' (some g)
set_option maxHeartbeats 2000000 in
theorem putJid_any (g h cap:Nat) (c:Con) (gv o:Value) (x:List UInt8) (W:World) (hO:Okw W) (hk:Bk W g 25 (conCells c gv o)) (hx:W.cell? ⟨h,0,none⟩=some (.string (bts x))) (hs:x.length≤1000000) :
    Calls Tryz.prog 69 #[.pointer (some ⟨g,0,none⟩),.slice (some ⟨h,0,none⟩) 1 cap] W (PutE g ((Jd.bareL x).2,{ c with jid:=(Jd.bareL x).1 }) gv o W):=by
  have HB:=Lib.hid (bare_any (bts x) W hO (by rw[Lib.size_eq];show x.length≤_;omega))
  unfold twoV at HB
  rw[show (bts x).data.toList=x from rfl] at HB
  obtain⟨r,hr⟩:∃ r,Jd.bareL x=r:=⟨_,rfl⟩
  rw[hr] at HB ⊢
  obtain⟨X,hX⟩:∃ X,bts x=X:=⟨_,rfl⟩
  obtain⟨Y,hY⟩:∃ X,(⟨r.1.toArray⟩:ByteArray)=X:=⟨_,rfl⟩
  have HY:=Lib.hid hY
  rw[hX] at hx HB
  rw[hY] at HB
  have HK:=Lib.hid hk
  clear hO hk hr hX hY
  go_enter Tryz.func69,Tryz.ntmps69
  go_wp2_with fail
  refine HB.out.mono ?_
  rintro e w1 ⟨rfl,b1⟩
  have B1:=Lib.hid b1
  have k1:=HK.out.below b1 HK.out.lt
  have K1:=Lib.hid k1
  have hfz:w1.frozen? ⟨g,4,none⟩=false:=k1.free 4
  have hcl:w1.cell? ⟨g,4,none⟩=some (.string (bts c.jid)):=k1.cell 4
  clear b1 k1
  go_wp2_with fail
  go_ret
  have k9:=K1.out.put 4 (.string Y)
  refine⟨rfl,fun _=>?_,?_⟩
  · rw[← HY.out] at k9 ⊢
    exact k9
  · exact gtrans (row:=some g) ⟨B1.out.os,B1.out.tape,B1.out.output,B1.out.size,fun i hi _=>B1.out.block i hi⟩ (grown_set _)
end Go.Proofs.YtfbdnaclkfmiaaaGreatDoor
end
section
namespace Go.Proofs.YtfbdnaclkfmiaaaGreatDoor
open Go.RowKit Vc Ct
theorem five_of_len {xs:List (List UInt8)} (h:xs.length=5):∃ a b c d e,xs=[a,b,c,d,e]:=by
  match xs,h with
  | [a,b,c,d,e],_=>exact⟨a,b,c,d,e,rfl⟩
set_option maxHeartbeats 4000000 in
theorem putNames_any (g h cap:Nat) (c:Con) (gv o:Value) (xs:List (List UInt8)) (n:Nat) (hn:xs.length=n) (hnb:n≤1000000) (W:World) (hk:Bk W g 25 (conCells c gv o)) (hx:∀ j x,xs[j]?=some x→W.cell? ⟨h,j,none⟩=some (.string (bts x))) (hne:h≠g) :
    Calls Tryz.prog 66 #[.pointer (some ⟨g,0,none⟩),.slice (some ⟨h,0,none⟩) n cap] W (PutE g (fiveC c xs) gv o W):=by
  have HK:=Lib.hid hk
  by_cases h5:n=5
  · subst h5
    obtain⟨x0,x1,x2,x3,x4,rfl⟩:=five_of_len hn
    have c0:W.cell? ⟨h,0,none⟩=some (.string (bts x0)):=hx 0 _ rfl
    have c1:W.cell? ⟨h,1,none⟩=some (.string (bts x1)):=hx 1 _ rfl
    have c2:W.cell? ⟨h,2,none⟩=some (.string (bts x2)):=hx 2 _ rfl
    have c3:W.cell? ⟨h,3,none⟩=some (.string (bts x3)):=hx 3 _ rfl
    have c4:W.cell? ⟨h,4,none⟩=some (.string (bts x4)):=hx 4 _ rfl
    have e2:=emptyB (l:=x2)
    have e3:=emptyB (l:=x3)
    have e4:=emptyB (l:=x4)
    obtain⟨X0,hX0⟩:∃ X,bts x0=X:=⟨_,rfl⟩
    obtain⟨X1,hX1⟩:∃ X,bts x1=X:=⟨_,rfl⟩
    obtain⟨X2,hX2⟩:∃ X,bts x2=X:=⟨_,rfl⟩
    obtain⟨X3,hX3⟩:∃ X,bts x3=X:=⟨_,rfl⟩
    obtain⟨X4,hX4⟩:∃ X,bts x4=X:=⟨_,rfl⟩
    have H0:=Lib.hid hX0
    have H1:=Lib.hid hX1
    rw[hX0] at c0
    rw[hX1] at c1
    rw[hX2] at c2 e2
    rw[hX3] at c3 e3
    rw[hX4] at c4 e4
    have HR:Hid (¬ (x2=[]∧x3=[]∧x4=[])→fiveC c [x0,x1,x2,x3,x4]=(12,c)):=fun hh=>five_ok (fun a b e=>hh (by
      injection e with _ e
      injection e with _ e
      injection e with e2 e
      injection e with e3 e
      injection e with e4 e
      exact⟨e2,e3,e4⟩))
    clear hx hX0 hX1 hX2 hX3 hX4 hk hn hnb
    by_cases h2:x2=[]
    · rw[decide_eq_true h2] at e2
      by_cases h3:x3=[]
      · rw[decide_eq_true h3] at e3
        by_cases h4:x4=[]
        · rw[decide_eq_true h4] at e4
          subst h2 h3 h4
          have k1:=HK.out
          have f1:W.frozen? ⟨g,1,none⟩=false:=k1.free 1
          have f2:W.frozen? ⟨g,2,none⟩=false:=k1.free 2
          have g1:W.cell? ⟨g,1,none⟩=some (.string (bts c.family)):=k1.cell 1
          have g2:W.cell? ⟨g,2,none⟩=some (.string (bts c.given)):=k1.cell 2
          have hne2:g≠h:=fun e=>hne e.symm
          clear k1 HR
          go_enter Tryz.func66,Tryz.ntmps66
          go_wp2_with fail
          go_region
          go_wp2_with fail
          go_ret
          have k9:=(HK.out.put 1 (.string X0)).put 2 (.string X1)
          have e9:((conCells c gv o).setIfInBounds 1 (.string X0)).setIfInBounds 2 (.string X1)=conCells { c with family:=x0,given:=x1 } gv o:=by rw[← H0.out,← H1.out];rfl
          rw[e9] at k9
          refine⟨rfl,fun _=>k9,?_⟩
          have d:=gtrans (grown_set (w:=W) (b:=g) (o:=1) (.string X0)) (grown_set (b:=g) (o:=2) (.string X1))
          exact⟨d.os,d.tape,d.output,d.size,d.block⟩
        · rw[decide_eq_false h4] at e4
          have HF:=Lib.hid (HR.out (fun hh=>h4 hh.2.2))
          clear h2 h3 h4 HR
          go_enter Tryz.func66,Tryz.ntmps66
          go_wp2_with fail
          go_ret
          rw[HF.out]
          exact⟨rfl,fun e=>absurd e (show ¬ (12:Nat)=0 by decide),grown_self _ _⟩
      · rw[decide_eq_false h3] at e3
        have HF:=Lib.hid (HR.out (fun hh=>h3 hh.2.1))
        clear h2 h3 HR e4
        go_enter Tryz.func66,Tryz.ntmps66
        go_wp2_with fail
        go_ret
        rw[HF.out]
        exact⟨rfl,fun e=>absurd e (show ¬ (12:Nat)=0 by decide),grown_self _ _⟩
    · rw[decide_eq_false h2] at e2
      have HF:=Lib.hid (HR.out (fun hh=>h2 hh.1))
      clear h2 HR e3 e4
      go_enter Tryz.func66,Tryz.ntmps66
      go_wp2_with fail
      go_ret
      rw[HF.out]
      exact⟨rfl,fun e=>absurd e (show ¬ (12:Nat)=0 by decide),grown_self _ _⟩
  · have HF:Hid (fiveC c xs=(12,c)):=five_ok (fun a b e=>h5 (by rw[← hn,e];rfl))
    have hz:(((n:Nat):Int) != 5)=true:=by simp;omega
    clear hx hk hn
    go_enter Tryz.func66,Tryz.ntmps66
    go_wp2_with fail
    go_ret
    rw[HF.out]
    exact⟨rfl,fun e=>absurd e (show ¬ (12:Nat)=0 by decide),grown_self _ _⟩
end Go.Proofs.YtfbdnaclkfmiaaaGreatDoor
end
section
namespace Go.Proofs.YtfbdnaclkfmiaaaGreatDoor
open Go.RowKit Rg Tx
theorem toList_data (a:ByteArray):a.toList=a.data.toList:=by
  have e:(⟨a.data⟩:ByteArray).toList=a.data.toList:=ByteArray.toList_mk _
  exact e
theorem cut_here {c:UInt8}:∀ {l:List UInt8} {k:Nat} (hk:k < l.length),(∀ j (h:j < k),(l[j]'(by omega))≠c)→l[k]=c→Jd.cutB c l=(l.take k,l.drop (k+1),true)
  | [],_,hk,_,_=>absurd hk (by simp)
  | b::l,0,_,_,h=>by
    have:b=c:=h
    unfold Jd.cutB
    rw[if_pos this]
    rfl
  | b::l,k+1,hk,hn,h=>by
    have h1:b≠c:=hn 0 (by omega)
    have ih:=cut_here (c:=c) (l:=l) (k:=k) (by simpa using hk) (fun j hj=>hn (j+1) (by omega)) (by simpa using h)
    unfold Jd.cutB
    rw[if_neg h1,ih]
    rfl
set_option maxHeartbeats 2000000 in
theorem rcut_any (c:UInt8) (C:Int) (hC:C=(c.toNat:Int)) (s:ByteArray) (w:World) (hs:s.size≤1000000000) :
    Calls Tryz.prog 134 #[.string s,.int .u8 C] w fun e w'=>e=.returned (cutV (Jd.cutB c s.data.toList))∧Below w.heap.size w w':=by
  have hsz:=Lib.size_eq s
  have HN:=Lib.hid (fun (h:∀ j (h:j < s.size),(s[j]'h)≠c)=>Jd.cutB_none (c:=c) (l:=s.data.toList) (fun hm=>by
    obtain⟨j,hj,hx⟩:=List.getElem_of_mem hm
    exact h j (by omega) hx))
  have HH:=Lib.hid (fun (k:Nat) (hk:k < s.size) (h:∀ j (h:j < k),(s[j]'(Nat.lt_trans h hk))≠c) (h2:s[k]=c)=>cut_here (c:=c) (l:=s.data.toList) (k:=k) (by omega) (fun j hj=>h j hj) h2)
  have HCC:=Lib.hid hC
  have HSZ:=Lib.hid hsz
  clear hsz hC
  go_enter Tryz.func134,Tryz.ntmps134
  go_wp2_with fail
  go_loop [7] (fun i=>∃ (k:Nat),k≤s.size∧i=.int .i64 k∧Hid (∀ j (h:j < k) (h2:j < s.size),(s[j]'h2)≠c)) (fun i=>s.size - (intOf i).toNat)
  case atStart=>exact⟨0,Nat.zero_le _,rfl,Lib.hid (fun j h=>absurd h (Nat.not_lt_zero _))⟩
  case round =>
    obtain⟨k,hk,rfl,hno⟩:=hrel
    by_cases hlt:k < s.size
    · by_cases he:s[k]=c
      · have hf:=Lib.hid (HH.out k hlt (fun j hj=>hno.out j hj (by omega)) he)
        have hb:((s[k].toNat:Int)==C)=true:=by rw[HCC.out,he];simp
        have HF:Hid (cutV (Jd.cutB c s.data.toList)=.tuple #[.string (s.extract 0 k),.string (s.extract (k+1) s.size),.bool true]):=by
          have e1:s.extract 0 k=btj (s.data.toList.take k):=bytes_of (by rw[mid_cut];simp)
          have e2:s.extract (k+1) s.size=btj (s.data.toList.drop (k+1)):=bytes_of (Lib.extract_to_end s (k+1))
          unfold Hid
          rw[hf.out,cutV_bts,e1,e2]
        clear hf he
        go_wp2_with fail
        go_region
        all_goals
          go_wp2_with fail
          go_ret3
          exact⟨by rw[HF.out];rfl,(Below.refl _ _).drew⟩
      · have hb:((s[k].toNat:Int)==C)=false:=by
          rw[HCC.out]
          simp only[beq_eq_false_iff_ne,ne_eq]
          intro e
          exact he (UInt8.toNat_inj.1 (by omega))
        have hno2:Hid (∀ j (h:j < k+1) (h2:j < s.size),(s[j]'h2)≠c):=Lib.hid (fun j hj h2=>by
          rcases Nat.lt_or_ge j k with h | h
          · exact hno.out j h h2
          · obtain rfl:j=k:=by omega
            exact he)
        clear he
        go_wp2_with fail
        go_round
        case rel=>exact⟨k+1,by omega,by go_num,hno2⟩
        case measure=>simp[intOf];omega
    · have hke:k=s.size:=by omega
      have hf:=Lib.hid (HN.out (fun j hj=>hno.out j (by omega) hj))
      clear hke
      go_wp2_with fail
      go_ret3
      exact⟨by rw[hf.out];rfl,Below.refl _ _⟩
theorem half_cut (l:List UInt8):Jd.halfL l=if (Jd.cutB 64 l).2.2 then Jd.cutB 64 l else ([],l,false):=rfl
end Go.Proofs.YtfbdnaclkfmiaaaGreatDoor
end
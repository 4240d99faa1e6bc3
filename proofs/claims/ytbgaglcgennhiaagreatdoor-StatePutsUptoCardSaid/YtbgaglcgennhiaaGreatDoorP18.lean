import Derived.Test.YtbgaglcgennhiaaGreatDoorP17
import Derived.Test.YtbgaglcgennhiaaGreatDoorP14
import Derived.Laws.EntriesVeiled
import Derived.Deep.RegionWith
import Derived.Deep.RegionLaw
import Derived.Deep.QuietTactic
import Derived.BigQuiet
import Derived.Sort.KeysCollected
import Derived.Sort.Walk0
import Derived.Lib.SlicesCompact
import Derived.Test.YtbgaglcgennhiaaGreatDoorP02
import Derived.Laws.OwnMore
import Derived.Test.YtbgaglcgennhiaaGreatDoorP13
import Derived.Laws.MakeOwn
import Derived.Lib.OthersKept
import Derived.Scope
import Derived.Lib.Hide
import Derived.Laws.StructEq
import Derived.Lib.SlicesS
import Derived.Deep.Cut
import Derived.Deep.DeepCutAuto
import Derived.Laws.AppendOwnNone
import Derived.Test.YtbgaglcgennhiaaGreatDoorP11
section
namespace Go.Proofs.YtbgaglcgennhiaaGreatDoor
open Go.RowKit Rg Tx
theorem cg {a:ByteArray} (h:a.data.toList=[]):a=⟨#[]⟩:=aW h
theorem kF {l r:ByteArray} (d:ByteArray) (h:l.data.toList≠[]) (h2:r.data.toList≠[]):Jd.textL (l.data.toList,d.data.toList,r.data.toList)=l.data.toList++[64]++d.data.toList++([47]++r.data.toList):=by
 unfold Jd.textL;simp only;rw[if_neg h,if_neg h2]
theorem ml {l:ByteArray} (d:ByteArray) (h:l.data.toList≠[]):Jd.textL (l.data.toList,d.data.toList,[])=l.data.toList++[64]++d.data.toList:=by
 have e:Jd.textL (l.data.toList,d.data.toList,[])=(if l.data.toList=[] then d.data.toList else l.data.toList++[64]++d.data.toList)++[]:=rfl;rw[e,if_neg h,List.append_nil]
theorem m4 {r:ByteArray} (d:ByteArray) (h2:r.data.toList≠[]):Jd.textL ([],d.data.toList,r.data.toList)=d.data.toList++([47]++r.data.toList):=by
 have e:Jd.textL ([],d.data.toList,r.data.toList)=d.data.toList++(if r.data.toList=[] then [] else [47]++r.data.toList):=rfl;rw[e,if_neg h2]
theorem mB (d:ByteArray):Jd.textL ([],d.data.toList,[])=d.data.toList:=by
 have e:Jd.textL ([],d.data.toList,[])=d.data.toList++[]:=rfl;rw[e,List.append_nil]
set_option maxHeartbeats 4000000 in
theorem sP (l d r:ByteArray) (w:World) (hl:l.size≤1000000) (hd:d.size≤1000000) (hr:r.size≤1000000) :
 Calls Tryz.prog 155 #[.agg #[.string l,.string d,.string r]] w fun e w'=>e=.returned (.string (aR (Jd.textL (l.data.toList,d.data.toList,r.data.toList))))∧Below w.heap.size w w':=by
 have hb1:Below w.heap.size w (w.alloc (.cells #[.string l,.string d,.string r] 115)):=(Below.refl _ w).alloc (Nat.le_refl _) _;have HB:=Lib.hid hb1;clear hb1
 by_cases h1:l.data.toList=[]
 · obtain rfl:=cg h1
   by_cases h2:r.data.toList=[]
   · obtain rfl:=cg h2
     have HF:=Lib.hid (mB d);clear h1 h2;go_enter Tryz.func155,Tryz.ntmps155
     go_wp2_with fail
     go_ret
     exact⟨dh (aW HF.out.symm),HB.out⟩
   · have e2:=aP h2
     have HF:=Lib.hid (m4 d h2);clear h1 h2;go_enter Tryz.func155,Tryz.ntmps155
     go_wp2_with fail
     go_ret
     exact⟨dh (aW (by rw[bf,bf];exact HF.out.symm)),HB.out⟩
 · have e1:=aP h1
   by_cases h2:r.data.toList=[]
   · obtain rfl:=cg h2
     have HF:=Lib.hid (ml d h1);clear h1 h2;go_enter Tryz.func155,Tryz.ntmps155
     go_wp2_with fail
     go_ret
     exact⟨dh (aW (by rw[bf,bf];exact HF.out.symm)),HB.out⟩
   · have e2:=aP h2
     have HF:=Lib.hid (kF d h1 h2);clear h1 h2;go_enter Tryz.func155,Tryz.ntmps155
     go_wp2_with fail
     go_ret
     exact⟨dh (aW (by rw[bf,bf,bf,bf];exact HF.out.symm)),HB.out⟩
set_option maxHeartbeats 4000000 in
theorem qZ (l d r:ByteArray) (w:World) (hl:l.size≤1000000) (hd:d.size≤1000000) (hr:r.size≤1000000) :
 Calls Tryz.prog 102 #[.agg #[.string l,.string d,.string r]] w fun e w'=>e=.returned (.string (aR (Jd.textL (l.data.toList,d.data.toList,r.data.toList))))∧Below w.heap.size w w':=by
 have hb1:Below w.heap.size w (w.alloc (.cells #[.string l,.string d,.string r] 115)):=(Below.refl _ w).alloc (Nat.le_refl _) _;have HB:=Lib.hid hb1;clear hb1
 by_cases h1:l.data.toList=[]
 · obtain rfl:=cg h1
   by_cases h2:r.data.toList=[]
   · obtain rfl:=cg h2
     have HF:=Lib.hid (mB d);clear h1 h2;go_enter Tryz.func102,Tryz.ntmps102
     go_wp2_with fail
     go_ret
     exact⟨dh (aW HF.out.symm),HB.out⟩
   · have e2:=aP h2
     have HF:=Lib.hid (m4 d h2);clear h1 h2;go_enter Tryz.func102,Tryz.ntmps102
     go_wp2_with fail
     go_ret
     exact⟨dh (aW (by rw[bf,bf,List.append_assoc];exact HF.out.symm)),HB.out⟩
 · have e1:=aP h1
   by_cases h2:r.data.toList=[]
   · obtain rfl:=cg h2
     have HF:=Lib.hid (ml d h1);clear h1 h2;go_enter Tryz.func102,Tryz.ntmps102
     go_wp2_with fail
     go_ret
     exact⟨dh (aW (by rw[bf,bf];exact HF.out.symm)),HB.out⟩
   · have e2:=aP h2
     have HF:=Lib.hid (kF d h1 h2);clear h1 h2;go_enter Tryz.func102,Tryz.ntmps102
     go_wp2_with fail
     go_ret
     exact⟨dh (aW (by rw[bf,bf,bf,bf,List.append_assoc (l.data.toList++[64]++d.data.toList)];exact HF.out.symm)),HB.out⟩
theorem dN {s:sf}:bs s=.tuple #[.agg #[.string (aR s.1.1),.string (aR s.1.2.1),.string (aR s.1.2.2)],.int .i64 (s.2:Nat)]:=rfl
set_option maxHeartbeats 4000000 in
theorem mg (s:ByteArray) (w:World) (hO:Okw w) (hs:s.size≤100000000) :
 Calls Tryz.prog 112 #[.string s] w fun e w'=>e=.returned (bM (Jd.bareL s.data.toList))∧Below w.heap.size w w':=by
 have HP:=Lib.hid (q7 s w hO hs)
 obtain⟨p,hp⟩:∃ p,Jd.parseL s.data.toList=p:=⟨_,rfl⟩
 have hlen:=Jd.parse_len (s:=s.data.toList) (j:=p.1);have hok:=Jd.bare_ok (s:=s.data.toList) (j:=p.1);have hres:=Jd.bare_res (s:=s.data.toList) (j:=p.1);have hbad:=Jd.bare_bad (s:=s.data.toList);rw[hp] at HP hlen hok hres hbad;rw[dN] at HP;clear hp hO hs
 obtain⟨l,hl⟩:∃ l,aR p.1.1=l:=⟨_,rfl⟩
 obtain⟨d,hd⟩:∃ d,aR p.1.2.1=d:=⟨_,rfl⟩
 obtain⟨r,hr⟩:∃ r,aR p.1.2.2=r:=⟨_,rfl⟩
 have dl:l.data.toList=p.1.1:=by rw[← hl]
 have dd:d.data.toList=p.1.2.1:=by rw[← hd]
 have dr:r.data.toList=p.1.2.2:=by rw[← hr]
 rw[hl,hd,hr] at HP
 by_cases h0:p.2=0
 · have e0:p=(p.1,0):=Prod.ext rfl h0
   obtain⟨z1,z2,z3⟩:=hlen e0
   rw[h0] at HP
   by_cases h1:p.1.2.2=[]
   · have HF:=Lib.hid (hok e0 h1)
     have hre:r=⟨#[]⟩:=cg (by rw[dr];exact h1);subst hre;have HT:=Lib.hid (fun W=>sP l d ⟨#[]⟩ W (by rw[Lib.size_eq,dl];omega) (by rw[Lib.size_eq,dd];omega) (by decide));have e3:(l.data.toList,d.data.toList,(⟨#[]⟩:ByteArray).data.toList)=p.1:=by rw[dl,dd];exact Prod.ext rfl (Prod.ext rfl h1.symm)
     rw[e3] at HT;rw[show bM (Jd.bareL s.data.toList)=.tuple #[.string (aR (Jd.textL p.1)),.int .i64 0] from by rw[HF.out];rfl]
     obtain⟨x,hx⟩:∃ x,aR (Jd.textL p.1)=x:=⟨_,rfl⟩
     rw[hx] at HT ⊢;clear hlen hok hres hbad hl hd hr dl dd dr e0 z1 z2 z3 h0 h1 HF e3 hx;go_enter Tryz.func112,Tryz.ntmps112
     go_wp2_with fail
     refine HP.out.mono ?_;rintro e w1 ⟨rfl,b1⟩;have hb1:Below w.heap.size w (w1.alloc (.cells #[.string l,.string d,.string ⟨#[]⟩] 115)):=b1.alloc b1.size _;have B1:=Lib.hid hb1;clear b1 hb1
     go_wp2_with fail
     refine(HT.out _).mono ?_
     rintro e w2 ⟨rfl,b2⟩;have B2:=Lib.hid (B1.out.trans (b2.mono B1.out.size));clear b2
     go_wp2_with fail
     go_ret2
     exact⟨rfl,B2.out⟩
   · have HF:=Lib.hid (hres e0 h1)
     have hne:=aP (a:=r) (by rw[dr];exact h1);rw[show bM (Jd.bareL s.data.toList)=.tuple #[.string ⟨#[]⟩,.int .i64 14] from by rw[HF.out];rfl];clear hlen hok hres hbad hl hd hr dl dd dr e0 z1 z2 z3 h0 h1 HF;go_enter Tryz.func112,Tryz.ntmps112
     go_wp2_with fail
     refine HP.out.mono ?_;rintro e w1 ⟨rfl,b1⟩;have hb1:Below w.heap.size w (w1.alloc (.cells #[.string l,.string d,.string r] 115)):=b1.alloc b1.size _;have B1:=Lib.hid hb1;clear b1 hb1
     go_wp2_with fail
     go_ret2
     exact⟨rfl,B1.out⟩
 · have HF:=Lib.hid (hbad h0)
   rw[show bM (Jd.bareL s.data.toList)=.tuple #[.string ⟨#[]⟩,.int .i64 (p.2:Nat)] from by rw[HF.out];rfl]
   obtain⟨n,hn⟩:∃ n:Int,((p.2:Nat):Int)=n:=⟨_,rfl⟩
   rw[hn] at HP ⊢;have hn0:n≠0:=by omega
   have hnB:(n != 0)=true:=by simpa using hn0
   clear hlen hok hres hbad hl hd hr dl dd dr h0 HF hn;go_enter Tryz.func112,Tryz.ntmps112
   go_wp2_with fail
   refine HP.out.mono ?_;rintro e w1 ⟨rfl,b1⟩;have hb1:Below w.heap.size w (w1.alloc (.cells #[.string l,.string d,.string r] 115)):=b1.alloc b1.size _;have B1:=Lib.hid hb1;clear b1 hb1
   go_wp2_with fail
   go_ret2
   exact⟨rfl,B1.out⟩
end Go.Proofs.YtbgaglcgennhiaaGreatDoor
end
section
namespace Go.Proofs.YtbgaglcgennhiaaGreatDoor
open Go.RowKit Rg Tx
theorem br (a:ByteArray):a.toList=a.data.toList:=by
 have e:(⟨a.data⟩:ByteArray).toList=a.data.toList:=ByteArray.toList_mk _;exact e
theorem d7 (a b:ByteArray):Op.bytesLess a.toList b.toList=Jd.ltL a.data.toList b.data.toList:=by
 rw[br,br];unfold Jd.ltL;rfl
def vR (x y:Int):Int:=if x=0 then y else x
set_option maxHeartbeats 1000000 in
theorem wn (g:Nat) (x y:Int) (w:World) (h0:w.cell? ⟨g,0,none⟩=some (.int .i64 x)) (h1:w.cell? ⟨g,1,none⟩=some (.int .i64 y)) :
 Calls Tryz.prog 110 #[.slice (some ⟨g,0,none⟩) 2 2] w fun e w'=>e=.returned (.int .i64 (vR x y))∧w'=w:=by
 go_enter Tryz.func110,Tryz.ntmps110
 go_wp2_with fail
 go_loop [8] (fun i=>∃ (k:Nat),k≤2∧i=.int .i64 k∧(0 < k→x=0)∧(1 < k→y=0)) (fun i=>2 - (intOf i).toNat)
 case atStart=>exact⟨0,by omega,rfl,by omega,by omega⟩
 case round =>
  obtain⟨k,hk,rfl,hx,hy⟩:=hrel
  have hX:=Lib.hid hx;have hY:=Lib.hid hy;clear hx hy;obtain rfl | rfl | rfl:k=0∨k=1∨k=2:=by omega
  · by_cases hz:x=0
    · subst hz
      go_wp2_with fail
      go_round
      case rel=>exact⟨1,by omega,by go_num,by simp,by omega⟩
      case measure=>simp[intOf]
    · have hb:(x != 0)=true:=by simpa using hz
      go_wp2_with fail
      go_ret
      exact⟨by unfold vR;rw[if_neg hz];rfl,rfl⟩
  · have hx0:=hX.out (by omega)
    subst hx0
    by_cases hz:y=0
    · subst hz
      go_wp2_with fail
      go_round
      case rel=>exact⟨2,by omega,by go_num,by simp,by simp⟩
      case measure=>simp[intOf]
    · have hb:(y != 0)=true:=by simpa using hz
      go_wp2_with fail
      go_ret
      exact⟨by unfold vR;rw[if_pos rfl];rfl,rfl⟩
  · have hx0:=hX.out (by omega)
    have hy0:=hY.out (by omega);subst hx0;subst hy0
    go_wp2_with fail
    go_ret
    exact⟨by unfold vR;rw[if_pos rfl];rfl,rfl⟩
theorem uX (a b x y:List UInt8):decide (vR (Lib.compareBytes x y) (Lib.compareBytes a b) < 0)=(Jd.ltL x y||(x==y&&Jd.ltL a b)):=by
 rw[Jd.compare_lt,Jd.compare_lt];unfold vR;rcases Jd.lt_tri x y with ⟨h1,_,h3⟩ | ⟨h1,_,h3⟩ | ⟨h1,_,h3⟩
 · rw[h1];simp
 · rw[h1];simp[h3]
 · subst h3
   rw[h1];rcases Jd.lt_tri a b with ⟨h4,_,h6⟩ | ⟨h4,_,h6⟩ | ⟨h4,_,h6⟩
   · rw[h4];simp
   · rw[h4];simp[h6]
   · rw[h4];simp[h6]
set_option maxHeartbeats 4000000 in
theorem kR (a b:ByteArray) (w:World) (hO:Okw w) (ha:a.size≤1000000000) (hb:b.size≤1000000000) :
 Calls Tryz.prog 83 #[.string a,.string b] w fun e w'=>e=.returned (.bool (Jd.lessL a.data.toList b.data.toList))∧Below w.heap.size w w':=by
 have H1:=Lib.hid (fI a w hO.maxl ha);have H2:=Lib.hid (fun W (h:Below w.heap.size w W)=>fI b W (hO.below h).maxl hb);rw[cM] at H1 H2
 obtain⟨x1,hx1⟩:∃ x,aR (Jd.halfL a.data.toList).1=x:=⟨_,rfl⟩
 obtain⟨x2,hx2⟩:∃ x,aR (Jd.halfL a.data.toList).2.1=x:=⟨_,rfl⟩
 obtain⟨x3,hx3⟩:∃ x,(Jd.halfL a.data.toList).2.2=x:=⟨_,rfl⟩
 obtain⟨y1,hy1⟩:∃ x,aR (Jd.halfL b.data.toList).1=x:=⟨_,rfl⟩
 obtain⟨y2,hy2⟩:∃ x,aR (Jd.halfL b.data.toList).2.1=x:=⟨_,rfl⟩
 obtain⟨y3,hy3⟩:∃ x,(Jd.halfL b.data.toList).2.2=x:=⟨_,rfl⟩
 rw[hx1,hx2,hx3] at H1;rw[hy1,hy2,hy3] at H2;have e1:x2.data.toList=Jd.dmL a.data.toList:=by rw[← hx2];rfl
 have e2:y2.data.toList=Jd.dmL b.data.toList:=by rw[← hy2];rfl
 have HC1:=fun (W:World)=>Tryz.strings_Compare x2 y2 W
 have HC2:=fun (W:World)=>Tryz.strings_Compare a b W
 have hr:=uX a.data.toList b.data.toList x2.data.toList y2.data.toList;rw[e1,e2] at hr HC1
 obtain⟨p1,hp1⟩:∃ p,Lib.compareBytes (Jd.dmL a.data.toList) (Jd.dmL b.data.toList)=p:=⟨_,rfl⟩
 obtain⟨p2,hp2⟩:∃ p,Lib.compareBytes a.data.toList b.data.toList=p:=⟨_,rfl⟩
 rw[hp1] at HC1 hr;rw[hp2] at HC2 hr;have HR:Hid (Jd.lessL a.data.toList b.data.toList=decide (vR p1 p2 < 0)):=hr.symm;have HO1:=Lib.hid HC1;have HO2:=Lib.hid HC2;have HOR:=Lib.hid (fun (g:Nat) W=>wn g p1 p2 W);clear hx1 hx2 hx3 hy1 hy2 hy3 e1 e2 hp1 hp2 hr hO HC1 HC2;go_enter Tryz.func83,Tryz.ntmps83
 go_wp2_with fail
 refine H1.out.mono ?_;rintro e w1 ⟨rfl,b1⟩;have B1:=Lib.hid b1;clear b1
 go_wp2_with fail
 refine(H2.out w1 B1.out).mono ?_
 rintro e w2 ⟨rfl,b2⟩;have B2:=Lib.hid (B1.out.trans (b2.mono B1.out.size));clear b2
 go_wp2_with fail
 refine(HO1.out w2).mono ?_
 rintro e w3 ⟨rfl,rfl⟩
 go_wp2_with fail
 refine(HO2.out _).mono ?_
 rintro e w4 ⟨rfl,rfl⟩
 obtain⟨w5,hw5⟩:∃ w5,w4.alloc (.cells #[.int .i64 p1,.int .i64 p2] 3)=w5:=⟨_,rfl⟩
 have k5:Bk w5 w4.heap.size 3 #[.int .i64 p1,.int .i64 p2]:=by rw[← hw5];exact Bk.new w4 _ _
 have B5:Hid (Below w.heap.size w w5):=by unfold Hid;rw[← hw5];exact B2.out.alloc B2.out.size _
 have A5:=Lib.hid (HOR.out w4.heap.size w5 (k5.cell 0) (k5.cell 1))
 obtain⟨g,hg⟩:∃ g,w4.heap.size=g:=⟨_,rfl⟩
 rw[hg] at A5;clear k5
 go_wp2_with fail
 refine A5.out.mono ?_;rintro e w6 ⟨rfl,rfl⟩
 go_wp2_with fail
 go_ret
 exact⟨by rw[HR.out];rfl,B5.out⟩
theorem iN {c:UInt8}:∀ {l:List UInt8} {k:Nat} (hk:k < l.length),(∀ j (h:j < k),(l[j]'(by omega))≠c)→l[k]=c→Jd.cutB c l=(l.take k,l.drop (k+1),true)
 | [],_,hk,_,_=>absurd hk (by simp)
 | b::l,0,_,_,h=>by
   have:b=c:=h
   unfold Jd.cutB;rw[if_pos this];rfl
 | b::l,k+1,hk,hn,h=>by
   have h1:b≠c:=hn 0 (by omega);have ih:=iN (c:=c) (l:=l) (k:=k) (by simpa using hk) (fun j hj=>hn (j+1) (by omega)) (by simpa using h);unfold Jd.cutB;rw[if_neg h1,ih];rfl
set_option maxHeartbeats 2000000 in
theorem jg (c:UInt8) (C:Int) (hC:C=(c.toNat:Int)) (s:ByteArray) (w:World) (hs:s.size≤1000000000) :
 Calls Tryz.prog 113 #[.string s,.int .u8 C] w fun e w'=>e=.returned (l5 (Jd.cutB c s.data.toList))∧Below w.heap.size w w':=by
 have hsz:=Lib.size_eq s;have HN:=Lib.hid (fun (h:∀ j (h:j < s.size),(s[j]'h)≠c)=>Jd.cutB_none (c:=c) (l:=s.data.toList) (fun hm=>by
  obtain⟨j,hj,hx⟩:=List.getElem_of_mem hm
  exact h j (by omega) hx))
 have HH:=Lib.hid (fun (k:Nat) (hk:k < s.size) (h:∀ j (h:j < k),(s[j]'(Nat.lt_trans h hk))≠c) (h2:s[k]=c)=>iN (c:=c) (l:=s.data.toList) (k:=k) (by omega) (fun j hj=>h j hj) h2);have HCC:=Lib.hid hC;have HSZ:=Lib.hid hsz;clear hsz hC;go_enter Tryz.func113,Tryz.ntmps113
 go_wp2_with fail
 go_loop [7] (fun i=>∃ (k:Nat),k≤s.size∧i=.int .i64 k∧Hid (∀ j (h:j < k) (h2:j < s.size),(s[j]'h2)≠c)) (fun i=>s.size - (intOf i).toNat)
 case atStart=>exact⟨0,Nat.zero_le _,rfl,Lib.hid (fun j h=>absurd h (Nat.not_lt_zero _))⟩
 case round =>
  obtain⟨k,hk,rfl,hno⟩:=hrel
  by_cases hlt:k < s.size
  · by_cases he:s[k]=c
    · have hf:=Lib.hid (HH.out k hlt (fun j hj=>hno.out j hj (by omega)) he)
      have hb:((s[k].toNat:Int)==C)=true:=by rw[HCC.out,he];simp
      have HF:Hid (l5 (Jd.cutB c s.data.toList)=.tuple #[.string (s.extract 0 k),.string (s.extract (k+1) s.size),.bool true]):=by
       have e1:s.extract 0 k=aR (s.data.toList.take k):=aW (by rw[ea];simp);have e2:s.extract (k+1) s.size=aR (s.data.toList.drop (k+1)):=aW (Lib.extract_to_end s (k+1));unfold Hid;rw[hf.out,cM,e1,e2]
      clear hf he
      go_wp2_with fail
      go_region
      all_goals
       go_wp2_with fail
       go_ret3
       exact⟨by rw[HF.out];rfl,(Below.refl _ _).drew⟩
    · have hb:((s[k].toNat:Int)==C)=false:=by
       rw[HCC.out];simp only[beq_eq_false_iff_ne,ne_eq];intro e;exact he (UInt8.toNat_inj.1 (by omega))
      have hno2:Hid (∀ j (h:j < k+1) (h2:j < s.size),(s[j]'h2)≠c):=Lib.hid (fun j hj h2=>by
       rcases Nat.lt_or_ge j k with h | h
       · exact hno.out j h h2
       · obtain rfl:j=k:=by omega
         exact he)
      clear he
      go_wp2_with fail
      go_round
      case rel=>exact⟨k+1,by omega,by go_num,hno2⟩
      case measure=>simp[intOf];omega
  · have hke:k=s.size:=by omega
    have hf:=Lib.hid (HN.out (fun j hj=>hno.out j (by omega) hj));clear hke
    go_wp2_with fail
    go_ret3
    exact⟨by rw[hf.out];rfl,Below.refl _ _⟩
theorem tL (l:List UInt8):Jd.halfL l=if (Jd.cutB 64 l).2.2 then Jd.cutB 64 l else ([],l,false):=rfl
set_option maxHeartbeats 1000000 in
theorem f8 (s:ByteArray) (w:World) (hs:s.size≤1000000000) :
 Calls Tryz.prog 86 #[.string s] w fun e w'=>e=.returned (.string (aR (Jd.dmL s.data.toList)))∧Below w.heap.size w w':=by
 have HC:=Lib.hid (jg 64 64 rfl s w hs);rcases Jd.cutB_cases 64 s.data.toList with ⟨h1,h2⟩ | ⟨p,r,h1,h2,h3⟩
 · have e:Jd.dmL s.data.toList=s.data.toList:=by unfold Jd.dmL;rw[Jd.half_none h2]
   rw[e];rw[h1,cM] at HC;simp only at HC;rw[su] at HC ⊢;clear h1 h2 e;go_enter Tryz.func86,Tryz.ntmps86
   go_wp2_with fail
   refine HC.out.mono ?_;rintro e w1 ⟨rfl,b1⟩
   go_wp2_with fail
   go_ret
   exact⟨rfl,b1⟩
 · have e:Jd.dmL s.data.toList=r:=by unfold Jd.dmL;rw[h1,Jd.half_some h2]
   rw[e];rw[h3,cM] at HC;simp only at HC
   obtain⟨P,hP⟩:∃ P:ByteArray,aR p=P:=⟨_,rfl⟩
   obtain⟨R,hR⟩:∃ R:ByteArray,aR r=R:=⟨_,rfl⟩
   rw[hP,hR] at HC;rw[hR];clear h1 h2 h3 e hP hR;go_enter Tryz.func86,Tryz.ntmps86
   go_wp2_with fail
   refine HC.out.mono ?_;rintro e w1 ⟨rfl,b1⟩
   go_wp2_with fail
   go_ret
   exact⟨rfl,b1⟩
set_option maxHeartbeats 4000000 in
theorem rk (a b:ByteArray) (w:World) (ha:a.size≤1000000000) (hb:b.size≤1000000000) :
 Calls Tryz.prog 53 #[.string a,.string b] w fun e w'=>e=.returned (.bool (Jd.lessL a.data.toList b.data.toList))∧Below w.heap.size w w':=by
 have H1:=Lib.hid (f8 a w ha);have H2:=Lib.hid (fun W=>f8 b W hb);have hl:=Jd.lessL.eq_1 a.data.toList b.data.toList
 obtain⟨x,hx⟩:∃ x,aR (Jd.dmL a.data.toList)=x:=⟨_,rfl⟩
 obtain⟨y,hy⟩:∃ y,aR (Jd.dmL b.data.toList)=y:=⟨_,rfl⟩
 have ex:Jd.dmL a.data.toList=x.data.toList:=by rw[← hx]
 have ey:Jd.dmL b.data.toList=y.data.toList:=by rw[← hy]
 rw[ex,ey] at hl;rw[hx] at H1;rw[hy] at H2;rw[hl];have q1:=d7 x y;have q2:(x.toList==y.toList)=(x.data.toList==y.data.toList):=by rw[br,br]
 have q3:=d7 a b;clear hl hx hy ex ey
 obtain⟨v1,hv1⟩:∃ v,Jd.ltL x.data.toList y.data.toList=v:=⟨_,rfl⟩
 obtain⟨v2,hv2⟩:∃ v,(x.data.toList==y.data.toList)=v:=⟨_,rfl⟩
 obtain⟨v3,hv3⟩:∃ v,Jd.ltL a.data.toList b.data.toList=v:=⟨_,rfl⟩
 rw[hv1] at q1;rw[hv2] at q2;rw[hv3] at q3;rw[hv1,hv2,hv3];clear hv1 hv2 hv3;cases v1<;>cases v2<;>cases v3
 all_goals
  go_enter Tryz.func53,Tryz.ntmps53
  go_wp2_with fail
  refine H1.out.mono ?_;rintro e w1 ⟨rfl,b1⟩;have B1:=Lib.hid b1;clear b1
  go_wp2_with fail
  refine(H2.out w1).mono ?_
  rintro e w2 ⟨rfl,b2⟩;have B2:=Lib.hid (B1.out.trans (b2.mono B1.out.size));clear b2
  go_wp2_with fail
  go_ret
  exact⟨rfl,B2.out⟩
end Go.Proofs.YtbgaglcgennhiaaGreatDoor
end
section
namespace Go.Proofs.YtbgaglcgennhiaaGreatDoor
open Go.RowKit Tx
def ac (l:List (List UInt8)):List ByteArray:=l.map fun x=>⟨x.toArray⟩
end Go.Proofs.YtbgaglcgennhiaaGreatDoor
end
section
namespace Go.Proofs.YtbgaglcgennhiaaGreatDoor
open Go.RowKit Ct
theorem ReadT.upon {w w':World} {v:Value} {x:List ByteArray} (h:ReadT w.heap.size w v x) (hb:Below w.heap.size w w'):ReadT w'.heap.size w' v x:=(h.below hb).more hb.size
end Go.Proofs.YtbgaglcgennhiaaGreatDoor
end
section
namespace Go.Proofs.YtbgaglcgennhiaaGreatDoor.Ct
open Go.Proofs.YtbgaglcgennhiaaGreatDoor Tx
theorem il:∀ {a b:List (List UInt8)},bU a=true→bU b=true→(∀ g,g∈a↔g∈b)→a=b
 | [],[],_,_,_=>rfl
 | [],y::t,_,_,h=>by have:=(h y).2 List.mem_cons_self;cases this
 | x::s,[],_,_,h=>by have:=(h x).1 List.mem_cons_self;cases this
 | x::s,y::t,h1,h2,h=>by
   have hx:=(h x).1 List.mem_cons_self;have hy:=(h y).2 List.mem_cons_self;have e:x=y:=by
    rcases List.mem_cons.1 hx with hx | hx
    · exact hx
    rcases List.mem_cons.1 hy with hy | hy
    · exact hy.symm
    have k1:=dt h2 x hx;have k2:=dt h1 y hy
    have:=Jd.lt_trans _ _ _ k1 k2
    rw[Jd.lt_irr] at this;cases this
   subst e
   congr 1
   refine il (eI h1) (eI h2) fun g=>?_
   have hg:=h g
   constructor
   · intro k
     rcases List.mem_cons.1 (hg.1 (List.mem_cons_of_mem _ k)) with k2 | k2
     · subst k2
       have:=dt h1 _ k
       rw[Jd.lt_irr] at this;cases this
     · exact k2
   · intro k
     rcases List.mem_cons.1 (hg.2 (List.mem_cons_of_mem _ k)) with k2 | k2
     · subst k2
       have:=dt h2 _ k
       rw[Jd.lt_irr] at this;cases this
     · exact k2
theorem r7 {l m:List (List UInt8)} (h1:bU m=true) (h2:∀ g,g∈m↔(g∈l∧g≠[])):m=ag l:=by
 obtain⟨k1,k2⟩:=fx l
 exact il h1 k1 fun g=>(h2 g).trans (k2 g).symm
end Go.Proofs.YtbgaglcgennhiaaGreatDoor.Ct
end
section
namespace Go.Proofs.YtbgaglcgennhiaaGreatDoor
open Go.RowKit Ct
theorem vW {l:List UInt8}:(aa l).toList.isEmpty=decide (l=[]):=by
 rw[ByteArray.toList_mk];cases l<;>rfl
end Go.Proofs.YtbgaglcgennhiaaGreatDoor
end
section
namespace Go.Proofs.YtbgaglcgennhiaaGreatDoor.Ct
open Go.Proofs.YtbgaglcgennhiaaGreatDoor Tx
theorem tT (x y:List UInt8):Jd.ltL x y=true↔x < y:=by
 unfold Jd.ltL;rw[Go.Proofs.bytesLess_eq,decide_eq_true_eq]
theorem ij:∀ {l:List (List UInt8)},l.Pairwise (fun x y=>Jd.ltL x y=true)→bU l=true
 | [],_=>rfl
 | [_],_=>rfl
 | x::y::t,h=>by
   obtain⟨h1,h2⟩:=List.pairwise_cons.1 h
   show (Jd.ltL x y&&bU (y::t))=true;rw[h1 y List.mem_cons_self,ij h2];rfl
theorem kK {zs:List (List UInt8)}:(zs.mergeSort fun x y=>decide (x≤y)).Pairwise (fun x y=>x≤y):=by
 have tr:∀ a b c:List UInt8,decide (a≤b)=true→decide (b≤c)=true→decide (a≤c)=true:=fun a b c h1 h2=>by
  simp only[decide_eq_true_eq] at *;exact List.le_trans h1 h2
 have tot:∀ a b:List UInt8,(decide (a≤b)||decide (b≤a))=true:=fun a b=>by
  simp only[Bool.or_eq_true,decide_eq_true_eq];exact List.le_total a b
 exact(List.pairwise_mergeSort tr tot zs).imp (fun h=>of_decide_eq_true h)
theorem ji {s:List (List UInt8)} (h:s.Pairwise (fun x y=>x≤y)):(Lib.compact s).Pairwise (fun x y=>Jd.ltL x y=true)∧∀ x,x∈Lib.compact s↔x∈s:=by
 have hle:∀ i j,i≤j→j < s.length→s.toArray[i]!≤s.toArray[j]!:=fun i j hij hj=>by
  have hi:i < s.length:=by omega
  rw[getElem!_pos _ i (by simpa using hi),getElem!_pos _ j (by simpa using hj)];rcases Nat.lt_or_eq_of_le hij with h2 | h2
  · have:=List.pairwise_iff_getElem.1 h i j hi hj h2
    simpa using this
  · subst h2
    exact List.le_refl _
 constructor
 · unfold Lib.compact Lib.compactUpTo
   rw[List.pairwise_map];have hr:((List.range s.length).filter (Lib.keeps s.toArray)).Pairwise (fun i j=>i < j∧Lib.keeps s.toArray j=true∧j < s.length):=by
    refine List.Pairwise.imp_of_mem (R:=fun i j=>i < j) (fun {i j} hi hj hlt=>?_) (List.Pairwise.filter _ List.pairwise_lt_range)
    obtain⟨k1,k2⟩:=List.mem_filter.1 hj
    exact⟨hlt,k2,List.mem_range.1 k1⟩
   refine hr.imp (fun {i j} hij=>?_)
   obtain⟨hlt,hk,hj⟩:=hij
   rw[tT];have h1:=hle i j (by omega) hj;rcases List.le_iff_lt_or_eq.1 h1 with h2 | h2
   · exact h2
   · exfalso
     unfold Lib.keeps at hk;rcases of_decide_eq_true hk with k | k
     · omega
     · apply k
       have a1:=hle i (j - 1) (by omega) (by omega);have a2:=hle (j - 1) j (by omega) hj;rw[h2] at a1;exact List.le_antisymm a1 a2
 · intro x
   unfold Lib.compact Lib.compactUpTo;rw[List.mem_map]
   constructor
   · rintro ⟨i,hi,rfl⟩
     have:=List.mem_range.1 (List.mem_filter.1 hi).1
     rw[getElem!_pos _ i (by simpa using this)]
     simp
   · intro hx
     obtain⟨j,hj,rfl⟩:=List.getElem_of_mem hx
     have key:∀ j,j < s.length→∃ k,k < s.length∧Lib.keeps s.toArray k=true∧s.toArray[k]! = s.toArray[j]!:=by
      intro j
      induction j with
      | zero=>exact fun hj=>⟨0,hj,decide_eq_true (.inl rfl),rfl⟩
      | succ j ih =>
        intro hj
        by_cases hk:Lib.keeps s.toArray (j+1)=true
        · exact⟨j+1,hj,hk,rfl⟩
        · obtain⟨k,k1,k2,k3⟩:=ih (by omega)
          refine⟨k,k1,k2,k3.trans ?_⟩
          unfold Lib.keeps at hk;have h2:=of_decide_eq_false (Bool.eq_false_iff.2 hk);have h3:¬ s.toArray[j+1]!≠s.toArray[j+1 - 1]!:=fun e=>h2 (.inr e)
          exact(Decidable.not_not.1 h3).symm
     obtain⟨k,k1,k2,k3⟩:=key j hj
     refine⟨k,List.mem_filter.2 ⟨List.mem_range.2 k1,k2⟩,k3.trans ?_⟩
     rw[getElem!_pos _ j (by simpa using hj)]
     simp
theorem fC (zs:List (List UInt8)):(Lib.compact (zs.mergeSort fun x y=>decide (x≤y))).filter (fun x=>decide (x≠[]))=ag zs:=by
 obtain⟨h1,h2⟩:=ji (kK (zs:=zs))
 refine r7 (ij (h1.filter _)) fun g=>?_
 rw[List.mem_filter,h2,List.mem_mergeSort,decide_eq_true_eq]
end Go.Proofs.YtbgaglcgennhiaaGreatDoor.Ct
end
section
namespace Go.Proofs.YtbgaglcgennhiaaGreatDoor
open Go.RowKit Tx
section
variable {l:List UInt8} {acc:List (List UInt8)} {f k:Nat} {c:UInt8}
end
end Go.Proofs.YtbgaglcgennhiaaGreatDoor
end
section
namespace Go.Proofs.YtbgaglcgennhiaaGreatDoor
open Go.RowKit
theorem OwnT.kept {B:Nat} {w w':World} {v:Value} {x:List ByteArray} (h:OwnT B w v x) (hb:∀ g,v.ownBlock=Option.some g→w'.heap[g]?=w.heap[g]?):OwnT B w' v x :=
 ⟨h.1,h.2.imp id fun ⟨g,cap,cur,k1,k2,k3,k4⟩=>⟨g,cap,cur,k1,k2,(hb g (by rw[k1];rfl)).trans k3,k4⟩⟩
theorem nw (a b:List ByteArray):cS (a++b)=cS a++cS b:=by unfold cS;rw[List.map_append]
theorem ar (a b:List (List UInt8)):ac (a++b)=ac a++ac b:=by unfold ac;rw[List.map_append]
end Go.Proofs.YtbgaglcgennhiaaGreatDoor
end
section
namespace Go.Proofs.YtbgaglcgennhiaaGreatDoor
open Rg Tx
namespace Jd
def lN (l:List UInt8):List Nat:=l.map (·.toNat)
def uR (l:List UInt8):Bool:=l.all fun b=>decide (32≤b.toNat)&&decide (b.toNat < 128)
theorem gI:∀ {l:List UInt8},(∀ b∈l,b.toNat < 128)→flat (lN l)=l
 | [],_=>ci
 | b::l,h=>by
   have hb:=h b (List.mem_cons_self ..);have ih:=gI (l:=l) (fun c hc=>h c (List.mem_cons_of_mem _ hc));unfold lN at ih ⊢;rw[List.map_cons,flat_cons,ih,fT (.inl (by omega))];unfold nT;rw[if_pos hb]
   simp
theorem pP {l:List UInt8} (h:uR l=true):∀ b∈l,32≤b.toNat∧b.toNat < 128:=by
 intro b hb
 have:=List.all_eq_true.1 h b hb
 simpa using this
theorem vQ {l:List UInt8} (h:uR l=true):ch l=some (lN l):=by
 have h1:=pP h;have h2:=Pr.ch_fine (l:=lN l) (fun c hc=>by
  obtain⟨b,hb,rfl⟩:=List.mem_map.1 hc
  have:=h1 b hb
  exact⟨.inl (by omega),Pr.okc_of (by omega) (by omega)⟩)
 rw[gI (fun b hb=>(h1 b hb).2)] at h2;exact h2
theorem tF {k:Nat} {l r:List UInt8} (h:uR l=true) (hm:Pr.mapL (k != 3) (lN l)=lN r) (hr:uR r=true) (hw:(lN r).any (Pr.wrong k)=false) (hy:Pr.wayB (lN r)=true):Pr.prepL k l=(r,0):=by
 rw[Pr.prepL_ch (vQ h),hm,Pr.prepC_kept hw hy,gI (fun b hb=>(pP hr b hb).2)]
def fitB (k:Nat) (b:UInt8):Bool:=decide (32≤b.toNat)&&decide (b.toNat < 128)&&(Pr.one (k != 3) b.toNat==[b.toNat])&&!(Pr.wrong k b.toNat)&&!(Pr.rl b.toNat)
theorem iJ {k:Nat} {b:UInt8} (h:fitB k b=true):32≤b.toNat∧b.toNat < 128∧Pr.one (k != 3) b.toNat=[b.toNat]∧Pr.wrong k b.toNat=false∧Pr.rl b.toNat=false:=by
 unfold fitB at h;simp only[Bool.and_eq_true,decide_eq_true_eq,beq_iff_eq,Bool.not_eq_true'] at h
 exact⟨h.1.1.1.1,h.1.1.1.2,h.1.1.2,h.1.2,h.2⟩
theorem fit_prep {k:Nat} {l:List UInt8} (h:∀ b∈l,fitB k b=true):Pr.prepL k l=(l,0):=by
 refine tF (r:=l) ?_ ?_ ?_ ?_ ?_
 · exact List.all_eq_true.2 fun b hb=>by have:=iJ (h b hb);simp;omega
 · refine Pr.mapL_stays fun c hc=>?_
   obtain⟨b,hb,rfl⟩:=List.mem_map.1 hc
   exact(iJ (h b hb)).2.2.1
 · exact List.all_eq_true.2 fun b hb=>by have:=iJ (h b hb);simp;omega
 · refine List.any_eq_false.2 fun c hc=>?_
   obtain⟨b,hb,rfl⟩:=List.mem_map.1 hc
   rw[(iJ (h b hb)).2.2.2.1]
   simp
 · have:(lN l).any Pr.rl=false:=List.any_eq_false.2 fun c hc=>by
    obtain⟨b,hb,rfl⟩:=List.mem_map.1 hc
    rw[(iJ (h b hb)).2.2.2.2]
    simp
   unfold Pr.wayB;rw[this];rfl
theorem parse_eq {s:List UInt8} {c d:List UInt8 × List UInt8 × Bool} (hc:cutB 47 s=c) (hd:halfL c.1=d):parseL s=three (domL d.2.1) (part d.2.2 1 d.1) (part c.2.2 3 c.2.1):=by
 subst hc;subst hd;rfl
theorem node_a:part true 1 [97]=([97],0):=by
 show sizedL 64 (Pr.prepL 1 [97])=_;rw[fit_prep (by decide)]
 decide
end Jd
end Go.Proofs.YtbgaglcgennhiaaGreatDoor
end
section
namespace Go.Proofs.YtbgaglcgennhiaaGreatDoor.Ct
open Go.Proofs.YtbgaglcgennhiaaGreatDoor Tx
theorem sY:Jd.domL [104]=([104],0):=Jd.dom_of (Jd.fit_prep (by decide)) (by decide) (by decide) (by decide)
theorem uL:Jd.bareL [97,64,104]=([97,64,104],0):=by
 have h:Jd.parseL [97,64,104]=(([97],[104],[]),0):=by
  rw[Jd.parse_eq (s:=[97,64,104]) (c:=([97,64,104],[],false)) (d:=([97],[104],true)) (by decide) (by decide)];simp only;rw[sY,Jd.node_a];rfl
 rw[Jd.bare_ok h rfl];rfl
end Go.Proofs.YtbgaglcgennhiaaGreatDoor.Ct
end

import Derived.Test.YtbgaglcgennhiaaGreatDoorQ15
import Derived.Shelf.Strings.Search2
set_option maxHeartbeats 4000000
set_option maxRecDepth 100000
namespace Go.Proofs.YtbgaglcgennhiaaGreatDoor
section
open Go.RowKit Rg Tx
theorem cG {a:ByteArray} (h:a.data.toList=[]):a=⟨#[]⟩:=bm h
theorem mD {l r:ByteArray} (d:ByteArray) (h:l.data.toList≠[]) (h2:r.data.toList≠[]):Jd.textL (l.data.toList,d.data.toList,r.data.toList)=l.data.toList++[64]++d.data.toList++([47]++r.data.toList):=by unfold Jd.textL;simp only;rw[if_neg h,if_neg h2]
theorem qo {l:ByteArray} (d:ByteArray) (h:l.data.toList≠[]):Jd.textL (l.data.toList,d.data.toList,[])=l.data.toList++[64]++d.data.toList:=by have e:Jd.textL (l.data.toList,d.data.toList,[])=(if l.data.toList=[] then d.data.toList else l.data.toList++[64]++d.data.toList)++[]:=rfl;rw[e,if_neg h,List.append_nil]
theorem qp {r:ByteArray} (d:ByteArray) (h2:r.data.toList≠[]):Jd.textL ([],d.data.toList,r.data.toList)=d.data.toList++([47]++r.data.toList):=by have e:Jd.textL ([],d.data.toList,r.data.toList)=d.data.toList++(if r.data.toList=[] then [] else [47]++r.data.toList):=rfl;rw[e,if_neg h2]
theorem qm (d:ByteArray):Jd.textL ([],d.data.toList,[])=d.data.toList:=by have e:Jd.textL ([],d.data.toList,[])=d.data.toList++[]:=rfl;rw[e,List.append_nil]
theorem yr (l d r:ByteArray) (w:World) (hl:l.size<=1000000) (hd:d.size<=1000000) (hr:r.size<=1000000):
 Calls Tryz.prog 155 #[.agg #[.string l,.string d,.string r]] w fun e w'=>e=.returned (.string (aY (Jd.textL (l.data.toList,d.data.toList,r.data.toList))))/\Below w.heap.size w w':=by
 have hb1:Below w.heap.size w (w.alloc (.cells #[.string l,.string d,.string r] 115)):=(Below.refl _ w).alloc (aq _) _;have HB:=aa hb1;clear hb1;by_cases h1:l.data.toList=[]
 ·obtain rfl:=cG h1;by_cases h2:r.data.toList=[]
  ·obtain rfl:=cG h2;have HF:=aa (qm d);clear h1 h2;go_enter Tryz.func155,Tryz.ntmps155;(go_wp2_with fail);go_ret;exact⟨d8 (bm HF.out.symm),HB.out⟩
  ·have e2:=bf h2;have HF:=aa (qp d h2);clear h1 h2;go_enter Tryz.func155,Tryz.ntmps155;(go_wp2_with fail);go_ret;exact⟨d8 (bm (by rw[br,br];exact HF.out.symm)),HB.out⟩
 ·have e1:=bf h1;by_cases h2:r.data.toList=[]
  ·obtain rfl:=cG h2;have HF:=aa (qo d h1);clear h1 h2;go_enter Tryz.func155,Tryz.ntmps155;(go_wp2_with fail);go_ret;exact⟨d8 (bm (by rw[br,br];exact HF.out.symm)),HB.out⟩
  ·have e2:=bf h2;have HF:=aa (mD d h1 h2);clear h1 h2;go_enter Tryz.func155,Tryz.ntmps155;(go_wp2_with fail);go_ret;exact⟨d8 (bm (by rw[br,br,br,br];exact HF.out.symm)),HB.out⟩
theorem uE (l d r:ByteArray) (w:World) (hl:l.size<=1000000) (hd:d.size<=1000000) (hr:r.size<=1000000):
 Calls Tryz.prog 102 #[.agg #[.string l,.string d,.string r]] w fun e w'=>e=.returned (.string (aY (Jd.textL (l.data.toList,d.data.toList,r.data.toList))))/\Below w.heap.size w w':=by
 have hb1:Below w.heap.size w (w.alloc (.cells #[.string l,.string d,.string r] 115)):=(Below.refl _ w).alloc (aq _) _;have HB:=aa hb1;clear hb1;by_cases h1:l.data.toList=[]
 ·obtain rfl:=cG h1;by_cases h2:r.data.toList=[]
  ·obtain rfl:=cG h2;have HF:=aa (qm d);clear h1 h2;go_enter Tryz.func102,Tryz.ntmps102;(go_wp2_with fail);go_ret;exact⟨d8 (bm HF.out.symm),HB.out⟩
  ·have e2:=bf h2;have HF:=aa (qp d h2);clear h1 h2;go_enter Tryz.func102,Tryz.ntmps102;(go_wp2_with fail);go_ret;exact⟨d8 (bm (by rw[br,br,List.append_assoc];exact HF.out.symm)),HB.out⟩
 ·have e1:=bf h1;by_cases h2:r.data.toList=[]
  ·obtain rfl:=cG h2;have HF:=aa (qo d h1);clear h1 h2;go_enter Tryz.func102,Tryz.ntmps102;(go_wp2_with fail);go_ret;exact⟨d8 (bm (by rw[br,br];exact HF.out.symm)),HB.out⟩
  ·have e2:=bf h2;have HF:=aa (mD d h1 h2);clear h1 h2;go_enter Tryz.func102,Tryz.ntmps102;(go_wp2_with fail);go_ret;exact⟨d8 (bm (by rw[br,br,br,br,List.append_assoc (l.data.toList++[64]++d.data.toList)];exact HF.out.symm)),HB.out⟩
theorem eW {s:vH}:bK s=.tuple #[.agg #[.string (aY s.1.1),.string (aY s.1.2.1),.string (aY s.1.2.2)],.int .i64 (s.2:Nat)]:=rfl
theorem oo (s:ByteArray) (w:World) (hO:Okw w) (hs:s.size<=100000000):
 Calls Tryz.prog 112 #[.string s] w fun e w'=>e=.returned (bY (Jd.bareL s.data.toList))/\Below w.heap.size w w':=by
 have HP:=aa (tW s w hO hs);obtain⟨p,hp⟩:=ac (Jd.parseL s.data.toList);have hlen:=Jd.parse_len (s:=s.data.toList) (j:=p.1);have hok:=Jd.bare_ok (s:=s.data.toList) (j:=p.1);have hres:=Jd.bare_res (s:=s.data.toList) (j:=p.1);have hbad:=Jd.bare_bad (s:=s.data.toList);rw[hp] at HP hlen hok hres hbad;rw[eW] at HP;clear hp hO hs;obtain⟨l,hl⟩:=ac (aY p.1.1);obtain⟨d,hd⟩:=ac (aY p.1.2.1);obtain⟨r,hr⟩:=ac (aY p.1.2.2);have dl:l.data.toList=p.1.1:=by rw[<-hl]
 have dd:d.data.toList=p.1.2.1:=by rw[<-hd]
 have dr:r.data.toList=p.1.2.2:=by rw[<-hr]
 rw[hl,hd,hr] at HP;by_cases h0:p.2=0
 ·have e0:p=(p.1,0):=Prod.ext rfl h0;obtain⟨z1,z2,z3⟩:=hlen e0;rw[h0] at HP;by_cases h1:p.1.2.2=[]
  ·have HF:=aa (hok e0 h1);have hre:r=⟨#[]⟩:=cG (by rw[dr];exact h1);subst hre;have HT:=aa (fun W=>yr l d ⟨#[]⟩ W (by rw[bS,dl];omega) (by rw[bS,dd];omega) (by decide));have e3:(l.data.toList,d.data.toList,(⟨#[]⟩:ByteArray).data.toList)=p.1:=(by rw[dl,dd];exact Prod.ext rfl (Prod.ext rfl h1.symm));rw[e3] at HT;rw[show bY (Jd.bareL s.data.toList)=.tuple #[.string (aY (Jd.textL p.1)),.int .i64 0] from by rw[HF.out];rfl];obtain⟨x,hx⟩:=ac (aY (Jd.textL p.1));rw[hx] at HT ⊢;clear hlen hok hres hbad hl hd hr dl dd dr e0 z1 z2 z3 h0 h1 HF e3 hx;go_enter Tryz.func112,Tryz.ntmps112;(go_wp2_with fail);refine HP.out.mono ?_;rintro e w1 ⟨rfl,b1⟩;have hb1:Below w.heap.size w (w1.alloc (.cells #[.string l,.string d,.string ⟨#[]⟩] 115)):=b1.alloc b1.size _;have B1:=aa hb1;clear b1 hb1;(go_wp2_with fail);refine(HT.out _).mono ?_;rintro e w2 ⟨rfl,b2⟩;have B2:=aa (B1.out.trans (b2.mono B1.out.size));clear b2;(go_wp2_with fail);go_ret2
   exact⟨rfl,B2.out⟩
  ·have HF:=aa (hres e0 h1);have hne:=bf (a:=r) (by rw[dr];exact h1);rw[show bY (Jd.bareL s.data.toList)=.tuple #[.string ⟨#[]⟩,.int .i64 14] from by rw[HF.out];rfl];clear hlen hok hres hbad hl hd hr dl dd dr e0 z1 z2 z3 h0 h1 HF;go_enter Tryz.func112,Tryz.ntmps112;(go_wp2_with fail);refine HP.out.mono ?_;rintro e w1 ⟨rfl,b1⟩;have hb1:Below w.heap.size w (w1.alloc (.cells #[.string l,.string d,.string r] 115)):=b1.alloc b1.size _;have B1:=aa hb1;clear b1 hb1;(go_wp2_with fail);go_ret2
   exact⟨rfl,B1.out⟩
 ·have HF:=aa (hbad h0);rw[show bY (Jd.bareL s.data.toList)=.tuple #[.string ⟨#[]⟩,.int .i64 (p.2:Nat)] from by rw[HF.out];rfl];obtain⟨n,hn⟩:∃ n:Int,((p.2:Nat):Int)=n:=⟨_,rfl⟩;rw[hn] at HP ⊢;have hn0:n≠0:=(by omega);have hnB:(n != 0)=true:=(by simpa using hn0);clear hlen hok hres hbad hl hd hr dl dd dr h0 HF hn;go_enter Tryz.func112,Tryz.ntmps112;(go_wp2_with fail);refine HP.out.mono ?_;rintro e w1 ⟨rfl,b1⟩;have hb1:Below w.heap.size w (w1.alloc (.cells #[.string l,.string d,.string r] 115)):=b1.alloc b1.size _;have B1:=aa hb1;clear b1 hb1;(go_wp2_with fail);go_ret2
  exact⟨rfl,B1.out⟩
theorem ct (a:ByteArray):a.toList=a.data.toList:=by have e:(⟨a.data⟩:ByteArray).toList=a.data.toList:=ByteArray.toList_mk _;exact e
theorem fk (a b:ByteArray):Op.bytesLess a.toList b.toList=Jd.ltL a.data.toList b.data.toList:=by rw[ct,ct];unfold Jd.ltL;rfl
def zH (x y:Int):Int:=if x=0 then y else x
theorem xB (g:Nat) (x y:Int) (w:World) (h0:w.cell? ⟨g,0,none⟩=some (.int .i64 x)) (h1:w.cell? ⟨g,1,none⟩=some (.int .i64 y)):
 Calls Tryz.prog 110 #[.slice (some ⟨g,0,none⟩) 2 2] w fun e w'=>e=.returned (.int .i64 (zH x y))/\w'=w:=by
 go_enter Tryz.func110,Tryz.ntmps110;go_wp2_with fail
 go_loop [8] (fun i=>∃ (k:Nat),k<=2/\i=.int .i64 k/\(0<k->x=0)/\(1<k->y=0)) (fun i=>2-(intOf i).toNat)
 case atStart=>exact⟨0,by omega,rfl,by omega,by omega⟩
 case round=>
  obtain⟨k,hk,rfl,hx,hy⟩:=hrel;have hX:=aa hx;have hY:=aa hy;clear hx hy;obtain rfl|rfl|rfl:k=0\/k=1\/k=2:=by omega
  ·by_cases hz:x=0
   ·subst hz;(go_wp2_with fail);go_round
    case rel=>exact⟨1,by omega,by go_num,by simp,by omega⟩
    case measure=>simp[intOf]
   ·have hb:(x != 0)=true:=(by simpa using hz);(go_wp2_with fail);go_ret;exact⟨by unfold zH;rw[if_neg hz];rfl,rfl⟩
  ·have hx0:=hX.out (by omega);subst hx0;by_cases hz:y=0
   ·subst hz;(go_wp2_with fail);go_round
    case rel=>exact⟨2,by omega,by go_num,by simp,by simp⟩
    case measure=>simp[intOf]
   ·have hb:(y != 0)=true:=(by simpa using hz);(go_wp2_with fail);go_ret;exact⟨by unfold zH;rw[if_pos rfl];rfl,rfl⟩
  ·have hx0:=hX.out (by omega);have hy0:=hY.out (by omega);subst hx0;subst hy0;(go_wp2_with fail);go_ret;exact⟨by unfold zH;rw[if_pos rfl];rfl,rfl⟩
theorem sP (a b x y:List UInt8):decide (zH (Lib.compareBytes x y) (Lib.compareBytes a b)<0)=(Jd.ltL x y||(x==y&&Jd.ltL a b)):=by
 rw[Jd.compare_lt,Jd.compare_lt];unfold zH;rcases Jd.lt_tri x y with ⟨h1,_,h3⟩|⟨h1,_,h3⟩|⟨h1,_,h3⟩
 ·rw[h1];simp
 ·rw[h1];simp[h3]
 ·subst h3;rw[h1];rcases Jd.lt_tri a b with ⟨h4,_,h6⟩|⟨h4,_,h6⟩|⟨h4,_,h6⟩
  ·rw[h4];simp
  ·rw[h4];simp[h6]
  ·rw[h4];simp[h6]
theorem i6 (a b:ByteArray) (w:World) (hO:Okw w) (ha:a.size<=1000000000) (hb:b.size<=1000000000):
 Calls Tryz.prog 83 #[.string a,.string b] w fun e w'=>e=.returned (.bool (Jd.lessL a.data.toList b.data.toList))/\Below w.heap.size w w':=by
 have H1:=aa (gJ a w hO.maxl ha);have H2:=aa (fun W (h:Below w.heap.size w W)=>gJ b W (hO.below h).maxl hb);rw[cW] at H1 H2;obtain⟨x1,hx1⟩:=ac (aY (Jd.halfL a.data.toList).1);obtain⟨x2,hx2⟩:=ac (aY (Jd.halfL a.data.toList).2.1);obtain⟨x3,hx3⟩:=ac ((Jd.halfL a.data.toList).2.2);obtain⟨y1,hy1⟩:=ac (aY (Jd.halfL b.data.toList).1);obtain⟨y2,hy2⟩:=ac (aY (Jd.halfL b.data.toList).2.1);obtain⟨y3,hy3⟩:=ac ((Jd.halfL b.data.toList).2.2);rw[hx1,hx2,hx3] at H1;rw[hy1,hy2,hy3] at H2;have e1:x2.data.toList=Jd.dmL a.data.toList:=by rw[<-hx2];rfl
 have e2:y2.data.toList=Jd.dmL b.data.toList:=by rw[<-hy2];rfl
 have HC1:=fun (W:World)=>Tryz.strings_Compare x2 y2 W
 have HC2:=fun (W:World)=>Tryz.strings_Compare a b W
 have hr:=sP a.data.toList b.data.toList x2.data.toList y2.data.toList;rw[e1,e2] at hr HC1;obtain⟨p1,hp1⟩:=ac (Lib.compareBytes (Jd.dmL a.data.toList) (Jd.dmL b.data.toList));obtain⟨p2,hp2⟩:=ac (Lib.compareBytes a.data.toList b.data.toList);rw[hp1] at HC1 hr;rw[hp2] at HC2 hr;have HR:Hid (Jd.lessL a.data.toList b.data.toList=decide (zH p1 p2<0)):=hr.symm;have HO1:=aa HC1;have HO2:=aa HC2;have HOR:=aa (fun (g:Nat) W=>xB g p1 p2 W);clear hx1 hx2 hx3 hy1 hy2 hy3 e1 e2 hp1 hp2 hr hO HC1 HC2;go_enter Tryz.func83,Tryz.ntmps83;go_wp2_with fail
 refine H1.out.mono ?_;rintro e w1 ⟨rfl,b1⟩;have B1:=aa b1;clear b1;go_wp2_with fail
 refine(H2.out w1 B1.out).mono ?_;rintro e w2 ⟨rfl,b2⟩;have B2:=aa (B1.out.trans (b2.mono B1.out.size));clear b2;go_wp2_with fail
 refine(HO1.out w2).mono ?_;rintro e w3 ⟨rfl,rfl⟩;go_wp2_with fail
 refine(HO2.out _).mono ?_;rintro e w4 ⟨rfl,rfl⟩;obtain⟨w5,hw5⟩:=ac (w4.alloc (.cells #[.int .i64 p1,.int .i64 p2] 3));have k5:Bk w5 w4.heap.size 3 #[.int .i64 p1,.int .i64 p2]:=by rw[<-hw5];exact Bk.new w4 _ _
 have B5:Hid (Below w.heap.size w w5):=by unfold Hid;rw[<-hw5];exact B2.out.alloc B2.out.size _
 have A5:=aa (HOR.out w4.heap.size w5 (k5.cell 0) (k5.cell 1));obtain⟨g,hg⟩:=ac w4.heap.size;rw[hg] at A5;clear k5;go_wp2_with fail
 refine A5.out.mono ?_;rintro e w6 ⟨rfl,rfl⟩;go_wp2_with fail
 go_ret;exact⟨by rw[HR.out];rfl,B5.out⟩
theorem kB {c:UInt8}:∀ {l:List UInt8} {k:Nat} (hk:k<l.length),(∀ j (h:j<k),(l[j]'(by omega))≠c)->l[k]=c->Jd.cutB c l=(l.take k,l.drop (k+1),true)
 |[],_,hk,_,_=>absurd hk (by simp)
 | b::l,0,_,_,h=>by have:b=c:=h;unfold Jd.cutB;rw[if_pos this];rfl
 | b::l,k+1,hk,hn,h=>by have h1:b≠c:=hn 0 (by omega);have ih:=kB (c:=c) (l:=l) (k:=k) (by simpa using hk) (fun j hj=>hn (j+1) (by omega)) (by simpa using h);unfold Jd.cutB;rw[if_neg h1,ih];rfl
theorem lj (c:UInt8) (C:Int) (hC:C=(c.toNat:Int)) (s:ByteArray) (w:World) (hs:s.size<=1000000000):
 Calls Tryz.prog 113 #[.string s,.int .u8 C] w fun e w'=>e=.returned (ia (Jd.cutB c s.data.toList))/\Below w.heap.size w w':=by
 have hsz:=bS s;have HN:=aa (fun (h:∀ j (h:j<s.size),(s[j]'h)≠c)=>Jd.cutB_none (c:=c) (l:=s.data.toList) (fun hm=>by obtain⟨j,hj,hx⟩:=List.getElem_of_mem hm;exact h j (by omega) hx));have HH:=aa (fun (k:Nat) (hk:k<s.size) (h:∀ j (h:j<k),(s[j]'(Nat.lt_trans h hk))≠c) (h2:s[k]=c)=>kB (c:=c) (l:=s.data.toList) (k:=k) (by omega) (fun j hj=>h j hj) h2);have HCC:=aa hC;have HSZ:=aa hsz;clear hsz hC;go_enter Tryz.func113,Tryz.ntmps113;go_wp2_with fail
 go_loop [7] (fun i=>∃ (k:Nat),k<=s.size/\i=.int .i64 k/\Hid (∀ j (h:j<k) (h2:j<s.size),(s[j]'h2)≠c)) (fun i=>s.size-(intOf i).toNat)
 case atStart=>exact⟨0,bI _,rfl,aa (fun j h=>absurd h (Nat.not_lt_zero _))⟩
 case round=>
  obtain⟨k,hk,rfl,hno⟩:=hrel;by_cases hlt:k<s.size
  ·by_cases he:s[k]=c
   ·have hf:=aa (HH.out k hlt (fun j hj=>hno.out j hj (by omega)) he);have hb:((s[k].toNat:Int)==C)=true:=(by rw[HCC.out,he];simp);have HF:Hid (ia (Jd.cutB c s.data.toList)=.tuple #[.string (s.extract 0 k),.string (s.extract (k+1) s.size),.bool true]):=(by have e1:s.extract 0 k=aY (s.data.toList.take k):=bm (by rw[fl];simp);have e2:s.extract (k+1) s.size=aY (s.data.toList.drop (k+1)):=bm (Lib.extract_to_end s (k+1));unfold Hid;rw[hf.out,cW,e1,e2]);clear hf he;(go_wp2_with fail);go_region
    all_goals
     (go_wp2_with fail);go_ret3
     exact⟨by rw[HF.out];rfl,(aE _ _).drew⟩
   ·have hb:((s[k].toNat:Int)==C)=false:=(by rw[HCC.out];simp only[beq_eq_false_iff_ne,ne_eq];intro e;exact he (UInt8.toNat_inj.1 (by omega)));have hno2:Hid (∀ j (h:j<k+1) (h2:j<s.size),(s[j]'h2)≠c):=aa (fun j hj h2=>by
     rcases Nat.lt_or_ge j k with h|h
     ·exact hno.out j h h2
     ·obtain rfl:j=k:=(by omega);exact he)
    clear he;(go_wp2_with fail);go_round
    case rel=>exact⟨k+1,by omega,by go_num,hno2⟩
    case measure=>simp[intOf];omega
  ·have hke:k=s.size:=(by omega);have hf:=aa (HN.out (fun j hj=>hno.out j (by omega) hj));clear hke;(go_wp2_with fail);go_ret3
   exact⟨by rw[hf.out];rfl,aE _ _⟩
theorem wH (l:List UInt8):Jd.halfL l=if (Jd.cutB 64 l).2.2 then Jd.cutB 64 l else ([],l,false):=rfl
theorem ig (s:ByteArray) (w:World) (hs:s.size<=1000000000):
 Calls Tryz.prog 86 #[.string s] w fun e w'=>e=.returned (.string (aY (Jd.dmL s.data.toList)))/\Below w.heap.size w w':=by
 have HC:=aa (lj 64 64 rfl s w hs);rcases Jd.cutB_cases 64 s.data.toList with ⟨h1,h2⟩|⟨p,r,h1,h2,h3⟩
 ·have e:Jd.dmL s.data.toList=s.data.toList:=(by unfold Jd.dmL;rw[Jd.half_none h2]);rw[e];rw[h1,cW] at HC;simp only at HC;rw[vR] at HC ⊢;clear h1 h2 e;go_enter Tryz.func86,Tryz.ntmps86;(go_wp2_with fail);refine HC.out.mono ?_;rintro e w1 ⟨rfl,b1⟩;(go_wp2_with fail);go_ret;exact⟨rfl,b1⟩
 ·have e:Jd.dmL s.data.toList=r:=(by unfold Jd.dmL;rw[h1,Jd.half_some h2]);rw[e];rw[h3,cW] at HC;simp only at HC;obtain⟨P,hP⟩:∃ P:ByteArray,aY p=P:=⟨_,rfl⟩;obtain⟨R,hR⟩:∃ R:ByteArray,aY r=R:=⟨_,rfl⟩;rw[hP,hR] at HC;rw[hR];clear h1 h2 h3 e hP hR;go_enter Tryz.func86,Tryz.ntmps86;(go_wp2_with fail);refine HC.out.mono ?_;rintro e w1 ⟨rfl,b1⟩;(go_wp2_with fail);go_ret;exact⟨rfl,b1⟩
theorem uu (a b:ByteArray) (w:World) (ha:a.size<=1000000000) (hb:b.size<=1000000000):
 Calls Tryz.prog 53 #[.string a,.string b] w fun e w'=>e=.returned (.bool (Jd.lessL a.data.toList b.data.toList))/\Below w.heap.size w w':=by
 have H1:=aa (ig a w ha);have H2:=aa (fun W=>ig b W hb);have hl:=Jd.lessL.eq_1 a.data.toList b.data.toList;obtain⟨x,hx⟩:=ac (aY (Jd.dmL a.data.toList));obtain⟨y,hy⟩:=ac (aY (Jd.dmL b.data.toList));have ex:Jd.dmL a.data.toList=x.data.toList:=by rw[<-hx]
 have ey:Jd.dmL b.data.toList=y.data.toList:=by rw[<-hy]
 rw[ex,ey] at hl;rw[hx] at H1;rw[hy] at H2;rw[hl];have q1:=fk x y;have q2:(x.toList==y.toList)=(x.data.toList==y.data.toList):=by rw[ct,ct]
 have q3:=fk a b;clear hl hx hy ex ey;obtain⟨v1,hv1⟩:=ac (Jd.ltL x.data.toList y.data.toList);obtain⟨v2,hv2⟩:=ac (x.data.toList==y.data.toList);obtain⟨v3,hv3⟩:=ac (Jd.ltL a.data.toList b.data.toList);rw[hv1] at q1;rw[hv2] at q2;rw[hv3] at q3;rw[hv1,hv2,hv3];clear hv1 hv2 hv3;cases v1<;>cases v2<;>cases v3
 all_goals
  go_enter Tryz.func53,Tryz.ntmps53;go_wp2_with fail
  refine H1.out.mono ?_;rintro e w1 ⟨rfl,b1⟩;have B1:=aa b1;clear b1;go_wp2_with fail
  refine(H2.out w1).mono ?_;rintro e w2 ⟨rfl,b2⟩;have B2:=aa (B1.out.trans (b2.mono B1.out.size));clear b2;go_wp2_with fail
  go_ret;exact⟨rfl,B2.out⟩
end
section
open Go.RowKit Pr
theorem rZ (c:UInt8) (s:ByteArray) (w:World) (hs:s.size<=140737488355328):
 Calls Tryz.prog 181 #[.string s,.string ⟨#[c]⟩] w fun e w'=>e=.returned (.tuple #[.string ⟨(Lib.cut s.data.toList (⟨#[c]⟩:ByteArray).data.toList).1.toArray⟩,.string ⟨(Lib.cut s.data.toList (⟨#[c]⟩:ByteArray).data.toList).2.1.toArray⟩,.bool (Lib.cut s.data.toList (⟨#[c]⟩:ByteArray).data.toList).2.2])/\Below w.heap.size w w':=by
 have H:=aa (fun W=>Any.stringslite_Index_one (P:=Tryz.prog) { Tryz.lays145 with } s c W);have hi1:Lib.indexB s ⟨#[c]⟩=Lib.indexByte s.data.toList c:=Lib.index_one s.data.toList c;rcases Lib.indexB_cases s ⟨#[c]⟩ with hix|⟨i,hix,hroom⟩
 ·obtain⟨e1,e2,e3⟩:=Lib.cutB_miss s ⟨#[c]⟩ hix;rw[e1,e2,e3];rw[hi1] at hix;rw[hix] at H;clear e1 e2 e3 hix hi1;go_enter Tryz.func181,Tryz.ntmps181;(go_wp2_with fail);refine(H.out _).mono ?_;rintro e w1 ⟨rfl,rfl⟩;(go_wp2_with fail);go_ret3
  exact⟨rfl,aE _ _⟩
 ·obtain⟨e1,e2,e3⟩:=Lib.cutB_hit s ⟨#[c]⟩ i hix;rw[e1,e2,e3];rw[hi1] at hix;rw[hix] at H;have hsz:(⟨#[c]⟩:ByteArray).size=1:=rfl;rw[hsz] at hroom ⊢;have c1:(0:Int)<=(i:Int):=(by omega);have c2:(i:Int)<=(s.size:Int):=(by omega);have c3:(0:Int)<=(i:Int)+1:=(by omega);have c4:(i:Int)+1<=(s.size:Int):=(by omega);clear e1 e2 e3 hix hi1 hsz;go_enter Tryz.func181,Tryz.ntmps181;(go_wp2_with fail);refine(H.out _).mono ?_;rintro e w1 ⟨rfl,rfl⟩;(go_wp2_with fail);go_region
  all_goals
   (go_wp2_with fail);go_ret3
   exact⟨rfl,⟨rfl,rfl,rfl,aq _,fun _ _=>rfl⟩⟩
theorem td (c:UInt8) (s:ByteArray) (w:World) (_:MaxL w) (hs:s.size<=140737488355328):
 Calls Tryz.prog 152 #[.string s,.string ⟨#[c]⟩] w fun e w'=>e=.returned (ia (Jd.cutB c s.data.toList))/\Below w.heap.size w w':=by
 have H:=aa (rZ c s w hs);rw[show (⟨#[c]⟩:ByteArray).data.toList=[c] from rfl,sA] at H;obtain⟨r,hr⟩:=ac (Jd.cutB c s.data.toList);rw[hr] at H ⊢;unfold ia;obtain⟨r1,r2,r3⟩:=r;obtain⟨Y,hY⟩:=ac (⟨r1.toArray⟩:ByteArray);obtain⟨Z,hZ⟩:=ac (⟨r2.toArray⟩:ByteArray);simp only at H ⊢;rw[hY,hZ] at H ⊢;clear hr hY hZ hs;go_enter Tryz.func152,Tryz.ntmps152;go_wp2_with fail
 refine H.out.mono ?_;rintro e w1 ⟨rfl,b1⟩;go_wp2_with fail
 go_ret3
 exact⟨rfl,b1⟩
theorem ju (s:ByteArray) (w:World) (hM:MaxL w) (hs:s.size<=140737488355328):
 Calls Tryz.prog 109 #[.string s] w fun e w'=>e=.returned (ia (Jd.halfL s.data.toList))/\Below w.heap.size w w':=by
 have HC:=aa (td 64 s w hM hs);rcases Jd.cutB_cases 64 s.data.toList with ⟨h1,h2⟩|⟨p,r,h1,h2,h3⟩
 ·rw[Jd.half_none h2];rw[h1] at HC;unfold ia at HC ⊢;simp only at HC ⊢;have et:(⟨s.data.toList.toArray⟩:ByteArray)=s:=rfl;rw[et] at HC ⊢;clear h1 h2 et hM;go_enter Tryz.func109,Tryz.ntmps109;(go_wp2_with fail);refine HC.out.mono ?_;rintro e w1 ⟨rfl,b1⟩;(go_wp2_with fail);go_ret3
  exact⟨rfl,b1⟩
 ·rw[h1,Jd.half_some h2];rw[h3] at HC;unfold ia at HC ⊢;simp only at HC ⊢;obtain⟨P,hP⟩:∃ P:ByteArray,⟨p.toArray⟩=P:=⟨_,rfl⟩;obtain⟨R,hR⟩:∃ R:ByteArray,⟨r.toArray⟩=R:=⟨_,rfl⟩;rw[hP,hR] at HC ⊢;clear h1 h2 h3 hP hR hM;go_enter Tryz.func109,Tryz.ntmps109;(go_wp2_with fail);refine HC.out.mono ?_;rintro e w1 ⟨rfl,b1⟩;(go_wp2_with fail);go_ret3
  exact⟨rfl,b1⟩
theorem rd (a b:ByteArray) (w:World) (hO:Okw w) (ha:a.size<=140737488355328) (hb:b.size<=140737488355328):
 Calls Tryz.prog 83 #[.string a,.string b] w fun e w'=>e=.returned (.bool (Jd.lessL a.data.toList b.data.toList))/\Below w.heap.size w w':=by
 have H1:=aa (ju a w hO.maxl ha);have H2:=aa (fun W (h:Below w.heap.size w W)=>ju b W (hO.below h).maxl hb);rw[cW] at H1 H2;obtain⟨x1,hx1⟩:=ac (aY (Jd.halfL a.data.toList).1);obtain⟨x2,hx2⟩:=ac (aY (Jd.halfL a.data.toList).2.1);obtain⟨x3,hx3⟩:=ac ((Jd.halfL a.data.toList).2.2);obtain⟨y1,hy1⟩:=ac (aY (Jd.halfL b.data.toList).1);obtain⟨y2,hy2⟩:=ac (aY (Jd.halfL b.data.toList).2.1);obtain⟨y3,hy3⟩:=ac ((Jd.halfL b.data.toList).2.2);rw[hx1,hx2,hx3] at H1;rw[hy1,hy2,hy3] at H2;have e1:x2.data.toList=Jd.dmL a.data.toList:=by rw[<-hx2];rfl
 have e2:y2.data.toList=Jd.dmL b.data.toList:=by rw[<-hy2];rfl
 have HC1:=fun (W:World)=>Tryz.strings_Compare x2 y2 W
 have HC2:=fun (W:World)=>Tryz.strings_Compare a b W
 have hr:=sP a.data.toList b.data.toList x2.data.toList y2.data.toList;rw[e1,e2] at hr HC1;obtain⟨p1,hp1⟩:=ac (Lib.compareBytes (Jd.dmL a.data.toList) (Jd.dmL b.data.toList));obtain⟨p2,hp2⟩:=ac (Lib.compareBytes a.data.toList b.data.toList);rw[hp1] at HC1 hr;rw[hp2] at HC2 hr;have HR:Hid (Jd.lessL a.data.toList b.data.toList=decide (zH p1 p2<0)):=hr.symm;have HO1:=aa HC1;have HO2:=aa HC2;have HOR:=aa (fun (g:Nat) W=>xB g p1 p2 W);clear hx1 hx2 hx3 hy1 hy2 hy3 e1 e2 hp1 hp2 hr hO HC1 HC2;go_enter Tryz.func83,Tryz.ntmps83;go_wp2_with fail
 refine H1.out.mono ?_;rintro e w1 ⟨rfl,b1⟩;have B1:=aa b1;clear b1;go_wp2_with fail
 refine(H2.out w1 B1.out).mono ?_;rintro e w2 ⟨rfl,b2⟩;have B2:=aa (B1.out.trans (b2.mono B1.out.size));clear b2;go_wp2_with fail
 refine(HO1.out w2).mono ?_;rintro e w3 ⟨rfl,rfl⟩;go_wp2_with fail
 refine(HO2.out _).mono ?_;rintro e w4 ⟨rfl,rfl⟩;obtain⟨w5,hw5⟩:=ac (w4.alloc (.cells #[.int .i64 p1,.int .i64 p2] 3));have k5:Bk w5 w4.heap.size 3 #[.int .i64 p1,.int .i64 p2]:=by rw[<-hw5];exact Bk.new w4 _ _
 have B5:Hid (Below w.heap.size w w5):=by unfold Hid;rw[<-hw5];exact B2.out.alloc B2.out.size _
 have A5:=aa (HOR.out w4.heap.size w5 (k5.cell 0) (k5.cell 1));obtain⟨g,hg⟩:=ac w4.heap.size;rw[hg] at A5;clear k5;go_wp2_with fail
 refine A5.out.mono ?_;rintro e w6 ⟨rfl,rfl⟩;go_wp2_with fail
 go_ret;exact⟨by rw[HR.out];rfl,B5.out⟩
theorem ul (c:UInt8) (C:Int) (hC:C=(c.toNat:Int)) (s:ByteArray) (w:World) (hs:s.size<=140737488355328):
 Calls Tryz.prog 113 #[.string s,.int .u8 C] w fun e w'=>e=.returned (ia (Jd.cutB c s.data.toList))/\Below w.heap.size w w':=by
 have hsz:=bS s;have HN:=aa (fun (h:∀ j (h:j<s.size),(s[j]'h)≠c)=>Jd.cutB_none (c:=c) (l:=s.data.toList) (fun hm=>by obtain⟨j,hj,hx⟩:=List.getElem_of_mem hm;exact h j (by omega) hx));have HH:=aa (fun (k:Nat) (hk:k<s.size) (h:∀ j (h:j<k),(s[j]'(Nat.lt_trans h hk))≠c) (h2:s[k]=c)=>kB (c:=c) (l:=s.data.toList) (k:=k) (by omega) (fun j hj=>h j hj) h2);have HCC:=aa hC;have HSZ:=aa hsz;clear hsz hC;go_enter Tryz.func113,Tryz.ntmps113;go_wp2_with fail
 go_loop [7] (fun i=>∃ (k:Nat),k<=s.size/\i=.int .i64 k/\Hid (∀ j (h:j<k) (h2:j<s.size),(s[j]'h2)≠c)) (fun i=>s.size-(intOf i).toNat)
 case atStart=>exact⟨0,bI _,rfl,aa (fun j h=>absurd h (Nat.not_lt_zero _))⟩
 case round=>
  obtain⟨k,hk,rfl,hno⟩:=hrel;by_cases hlt:k<s.size
  ·by_cases he:s[k]=c
   ·have hf:=aa (HH.out k hlt (fun j hj=>hno.out j hj (by omega)) he);have hb:((s[k].toNat:Int)==C)=true:=(by rw[HCC.out,he];simp);have HF:Hid (ia (Jd.cutB c s.data.toList)=.tuple #[.string (s.extract 0 k),.string (s.extract (k+1) s.size),.bool true]):=(by have e1:s.extract 0 k=aY (s.data.toList.take k):=bm (by rw[fl];simp);have e2:s.extract (k+1) s.size=aY (s.data.toList.drop (k+1)):=bm (Lib.extract_to_end s (k+1));unfold Hid;rw[hf.out,cW,e1,e2]);clear hf he;(go_wp2_with fail);go_region
    all_goals
     (go_wp2_with fail);go_ret3
     exact⟨by rw[HF.out];rfl,(aE _ _).drew⟩
   ·have hb:((s[k].toNat:Int)==C)=false:=(by rw[HCC.out];simp only[beq_eq_false_iff_ne,ne_eq];intro e;exact he (UInt8.toNat_inj.1 (by omega)));have hno2:Hid (∀ j (h:j<k+1) (h2:j<s.size),(s[j]'h2)≠c):=aa (fun j hj h2=>by
     rcases Nat.lt_or_ge j k with h|h
     ·exact hno.out j h h2
     ·obtain rfl:j=k:=(by omega);exact he)
    clear he;(go_wp2_with fail);go_round
    case rel=>exact⟨k+1,by omega,by go_num,hno2⟩
    case measure=>simp[intOf];omega
  ·have hke:k=s.size:=(by omega);have hf:=aa (HN.out (fun j hj=>hno.out j (by omega) hj));clear hke;(go_wp2_with fail);go_ret3
   exact⟨by rw[hf.out];rfl,aE _ _⟩
theorem gw (s:ByteArray) (w:World) (hs:s.size<=140737488355328):
 Calls Tryz.prog 86 #[.string s] w fun e w'=>e=.returned (.string (aY (Jd.dmL s.data.toList)))/\Below w.heap.size w w':=by
 have HC:=aa (ul 64 64 rfl s w hs);rcases Jd.cutB_cases 64 s.data.toList with ⟨h1,h2⟩|⟨p,r,h1,h2,h3⟩
 ·have e:Jd.dmL s.data.toList=s.data.toList:=(by unfold Jd.dmL;rw[Jd.half_none h2]);rw[e];rw[h1,cW] at HC;simp only at HC;rw[vR] at HC ⊢;clear h1 h2 e;go_enter Tryz.func86,Tryz.ntmps86;(go_wp2_with fail);refine HC.out.mono ?_;rintro e w1 ⟨rfl,b1⟩;(go_wp2_with fail);go_ret;exact⟨rfl,b1⟩
 ·have e:Jd.dmL s.data.toList=r:=(by unfold Jd.dmL;rw[h1,Jd.half_some h2]);rw[e];rw[h3,cW] at HC;simp only at HC;obtain⟨P,hP⟩:∃ P:ByteArray,aY p=P:=⟨_,rfl⟩;obtain⟨R,hR⟩:∃ R:ByteArray,aY r=R:=⟨_,rfl⟩;rw[hP,hR] at HC;rw[hR];clear h1 h2 h3 e hP hR;go_enter Tryz.func86,Tryz.ntmps86;(go_wp2_with fail);refine HC.out.mono ?_;rintro e w1 ⟨rfl,b1⟩;(go_wp2_with fail);go_ret;exact⟨rfl,b1⟩
theorem rF (a b:ByteArray) (w:World) (ha:a.size<=140737488355328) (hb:b.size<=140737488355328):
 Calls Tryz.prog 53 #[.string a,.string b] w fun e w'=>e=.returned (.bool (Jd.lessL a.data.toList b.data.toList))/\Below w.heap.size w w':=by
 have H1:=aa (gw a w ha);have H2:=aa (fun W=>gw b W hb);have hl:=Jd.lessL.eq_1 a.data.toList b.data.toList;obtain⟨x,hx⟩:=ac (aY (Jd.dmL a.data.toList));obtain⟨y,hy⟩:=ac (aY (Jd.dmL b.data.toList));have ex:Jd.dmL a.data.toList=x.data.toList:=by rw[<-hx]
 have ey:Jd.dmL b.data.toList=y.data.toList:=by rw[<-hy]
 rw[ex,ey] at hl;rw[hx] at H1;rw[hy] at H2;rw[hl];have q1:=fk x y;have q2:(x.toList==y.toList)=(x.data.toList==y.data.toList):=by rw[ct,ct]
 have q3:=fk a b;clear hl hx hy ex ey;obtain⟨v1,hv1⟩:=ac (Jd.ltL x.data.toList y.data.toList);obtain⟨v2,hv2⟩:=ac (x.data.toList==y.data.toList);obtain⟨v3,hv3⟩:=ac (Jd.ltL a.data.toList b.data.toList);rw[hv1] at q1;rw[hv2] at q2;rw[hv3] at q3;rw[hv1,hv2,hv3];clear hv1 hv2 hv3;cases v1<;>cases v2<;>cases v3
 all_goals
  go_enter Tryz.func53,Tryz.ntmps53;go_wp2_with fail
  refine H1.out.mono ?_;rintro e w1 ⟨rfl,b1⟩;have B1:=aa b1;clear b1;go_wp2_with fail
  refine(H2.out w1).mono ?_;rintro e w2 ⟨rfl,b2⟩;have B2:=aa (B1.out.trans (b2.mono B1.out.size));clear b2;go_wp2_with fail
  go_ret;exact⟨rfl,B2.out⟩
end
end Go.Proofs.YtbgaglcgennhiaaGreatDoor


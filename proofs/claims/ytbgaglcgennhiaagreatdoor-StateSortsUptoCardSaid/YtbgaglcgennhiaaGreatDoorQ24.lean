import Derived.Test.YtbgaglcgennhiaaGreatDoorQ22
set_option maxHeartbeats 8000000
set_option maxRecDepth 100000
namespace Go.Proofs.YtbgaglcgennhiaaGreatDoor
section
open Go.RowKit Tx Ct
structure bj where
 jid:List UInt8
 name:List UInt8
 groups:List (List UInt8)
 sub:Int
 ask:Bool
 app:Bool
def gH (x:bj) (gv:Value):List Value:=[.string (ae x.jid),.string (ae x.name),gv,.int .i64 x.sub,.bool x.ask,.bool x.app]
def e9 (x:bj) (gv:Value):Value:=.agg (gH x gv).toArray
def gR (s:Int) (ask app:Bool):Bool:=if s=0 then true else if s=1 then !ask else if s=2 then !app else if s=3 then !ask&&!app else false
def bR (s:List UInt8):Bool:=decide (Jd.bareL s=(s,0))
def kN (l:List (List UInt8)):Bool:=decide (l.length<=8)&&decide (l=an l)&&!l.any (fun g=>!line g 100)
def fP (x:bj):Bool:=bR x.jid&&line x.name 100&&kN x.groups&&gR x.sub x.ask x.app
theorem mq (s:ByteArray) (w:World) (hT:Tabs w) (hs:s.size<=140737488355328):
 Calls Tryz.prog 206 #[.string s] w fun e w'=>e=.returned (.bool (line s.data.toList 100))/\Below w.heap.size w w':=by
 have H:=aa (pf s 100 w hT hs);clear hT hs;go_enter Tryz.func206,Tryz.ntmps206;go_wp2_with fail
 refine H.out.mono ?_;rintro e w1 ⟨rfl,b1⟩;go_wp2_with fail
 go_ret;exact⟨rfl,b1⟩
theorem tm (s:ByteArray) (w:World) (hT:Tabs w) (hs:s.size<=140737488355328):
 Calls Tryz.prog 235 #[.string s] w fun e w'=>e=.returned (.bool (!line s.data.toList 100))/\Below w.heap.size w w':=by
 have H:=aa (mq s w hT hs);clear hT hs;go_enter Tryz.func235,Tryz.ntmps235;go_wp2_with fail
 refine H.out.mono ?_;rintro e w1 ⟨rfl,b1⟩;go_wp2_with fail
 go_ret;exact⟨rfl,b1⟩
theorem qL (ad:Addr) (cap n:Nat) (xs:List (List UInt8)) (hn:xs.length=n) (hl:n<=1000000) (hs:∀ x∈xs,x.length<=140737488355328) (w:World) (hT:Tabs w) (ha:ad.block<w.heap.size) (ht:∀ i b,(al xs)[i]?=some b->w.cell? (ad.add i)=some (.string b)):
 Calls Tryz.prog 160 #[.slice (some ad) n cap,.func (.func 235) #[] #[]] w fun e w'=>(∃ z:Int,e=.returned (.int .i64 z)/\decide (z≥0)=xs.any (fun x=>!Tx.line x 100))/\Below w.heap.size w w':=by
 have HTX:=aa ht;have HAD:=aa ha;have HN:=aa hn;have HP:=aa (fun k x (W:World) (hx:xs[k]?=some x) (hW:Below w.heap.size w W)=>tm (ae x) W (hT.below hW) (by rw[bS];have:=hs x (fA hx);show x.length<=_;omega));have HH:Hid (∀ k x,xs[k]?=some x->(!Tx.line x 100)=true->xs.any (fun x=>!Tx.line x 100)=true):=fun k x hx h=>List.any_eq_true.2 ⟨x,fA hx,h⟩
 have HM:Hid ((∀ k x,xs[k]?=some x->(!Tx.line x 100)=false)->xs.any (fun x=>!Tx.line x 100)=false):=fun h=>List.any_eq_false.2 fun x hx=>by obtain⟨k,hk,rfl⟩:=List.getElem_of_mem hx;rw[h k _ (aQ hk)];decide
 obtain⟨r,hr⟩:∃ r,xs.any (fun x=>!Tx.line x 100)=r:=⟨_,rfl⟩;rw[hr] at HH HM ⊢;have HT0:=aa hT;clear hn ht hT hs hr ha;go_enter Tryz.func160,Tryz.ntmps160;go_wp2_with fail
 go_loopw [8] (fun i wr=>∃ k:Nat,k<=n/\i=.int .i64 k/\Hid (Below w.heap.size w wr)/\Hid (∀ j x,j<k->xs[j]?=some x->(!Tx.line x 100)=false)) (fun i _=>n-(intOf i).toNat)
 case atStart=>exact⟨0,bI _,rfl,aE _ _,fun j x h=>absurd h (Nat.not_lt_zero _)⟩
 case round=>
  obtain⟨k,hk,rfl,BW,hno⟩:=hrel;by_cases hlt:k<n
  ·obtain⟨x,hx⟩:∃ x,xs[k]?=some x:=⟨_,aQ (by rw[HN.out];exact hlt)⟩;have c0:=HTX.out k (ae x) (by unfold al;rw[List.getElem?_map,hx];rfl);rw[<-BW.out.cell (p:=ad.add k) (by rw[aC];exact HAD.out)] at c0;have hp1:=HP.out k x wr hx BW.out;obtain⟨b,hb⟩:=ac (!Tx.line x 100);have hb1:(!Tx.line (ae x).data.toList 100)=b:=hb;rw[hb1] at hp1;obtain⟨X,hX⟩:=ac (ae x);rw[hX] at c0 hp1;have HP1:=aa hp1;have HB:=aa hb;have HX:=aa hx;clear hb hb1 hx hX hp1;(go_wp2_with fail);refine HP1.out.mono ?_;rintro e w2 ⟨rfl,b2⟩;have B2:Hid (Below w.heap.size w w2):=BW.out.trans (b2.mono BW.out.size);clear b2;cases b with
   | true=>have hf:=aa (HH.out k x HX.out HB.out);(go_wp2_with fail);go_ret;exact⟨⟨_,rfl,by rw[hf.out];simp⟩,B2.out⟩
   | false=>
     have hno2:Hid (∀ j y,j<k+1->xs[j]?=some y->(!Tx.line y 100)=false):=aa (fun j y hj hy=>by
      rcases Nat.lt_or_ge j k with h|h
      ·exact hno.out j y h hy
      ·obtain rfl:j=k:=(by omega);rw[HX.out] at hy;obtain rfl:=Option.some.inj hy;exact HB.out)
     (go_wp2_with fail);go_roundw;case rel=>exact⟨k+1,by omega,by go_num,B2,hno2⟩
     case measure=>simp[intOf];omega
  ·have hf:=aa (HM.out (fun j x hx=>hno.out j x (by have:=(cD hx).1;have:=HN.out;omega) hx));(go_wp2_with fail);go_ret;exact⟨⟨_,rfl,by rw[hf.out];simp⟩,BW.out⟩
theorem lV (ad:Addr) (cap n:Nat) (xs:List (List UInt8)) (hn:xs.length=n) (hl:n<=1000000) (hs:∀ x∈xs,x.length<=140737488355328) (w:World) (hT:Tabs w) (ha:ad.block<w.heap.size) (ht:∀ i b,(al xs)[i]?=some b->w.cell? (ad.add i)=some (.string b)):
 Calls Tryz.prog 119 #[.slice (some ad) n cap,.func (.func 235) #[] #[]] w fun e w'=>e=.returned (.bool (xs.any (fun x=>!Tx.line x 100)))/\Below w.heap.size w w':=by
 have HI:=aa (qL ad cap n xs hn hl hs w hT ha ht);obtain⟨r,hr⟩:∃ r,xs.any (fun x=>!Tx.line x 100)=r:=⟨_,rfl⟩;rw[hr] at HI ⊢;clear hs hr hn ht hT ha;go_enter Tryz.func119,Tryz.ntmps119;go_wp2_with fail
 refine HI.out.mono ?_;rintro e w1 ⟨⟨z,rfl,hz⟩,b1⟩;go_wp2_with fail
 go_ret;exact⟨rfl,b1⟩
theorem kL (A:Option Addr) (cap:Nat) (fv:Value) (w:World):Calls Tryz.prog 119 #[.slice A 0 cap,fv] w fun e w'=>e=.returned (.bool false)/\w'=w:=by
 have H:=aa (kQ A cap fv w);go_enter Tryz.func119,Tryz.ntmps119;go_wp2_with fail
 refine H.out.mono ?_;rintro e w1 ⟨rfl,rfl⟩;go_wp2_with fail
 go_ret;exact⟨rfl,rfl⟩
theorem qJ (A C:Option Addr) (n m c d:Nat) (h:n≠m) (w:World):Calls Tryz.prog 233 #[.slice A n c,.slice C m d] w fun e w'=>e=.returned (.bool false)/\w'=w:=by
 have hne:((n:Int) != (m:Int))=true:=by simp;omega
 go_enter Tryz.func233,Tryz.ntmps233;go_wp2_with fail
 go_ret;exact⟨rfl,rfl⟩
theorem qI (v u:Value) (x y:List ByteArray) (w:World) (B:Nat) (hx:ReadT B w v x) (hy:ReadT B w u y) (hl:x.length<=140737488355328) (hm:y.length<=140737488355328):
 Calls Tryz.prog 233 #[v,u] w fun e w'=>e=.returned (.bool (decide (x=y)))/\Below w.heap.size w w':=by
 have none_of:∀ (A C:Option Addr) (c d m:Nat),m=y.length->x.length=0->Calls Tryz.prog 233 #[.slice A 0 c,.slice C m d] w fun e w'=>e=.returned (.bool (decide (x=y)))/\Below w.heap.size w w':=fun A C c d m hm2 h0=>by
  refine(Tryz.slices_Equal_string_empty A C c m d w (by omega)).mono ?_;rintro e w' ⟨rfl,rfl⟩;refine⟨?_,aE _ _⟩;have hx0:=eB h0;subst hx0
  congr 2
  by_cases hy0:y=[]
  ·subst hy0;simp[hm2]
  ·have:m≠0:=(by rw[hm2];exact fun h=>hy0 (eB h));simp[this,Ne.symm hy0]
 by_cases h0:0<x.length
 ·obtain⟨b1,o1,c1,rfl,_,hc1⟩:=hx.flat h0;by_cases h2:0<y.length
  ·obtain⟨b2,o2,c2,rfl,_,hc2⟩:=hy.flat h2;refine(Tryz.slices_Equal_string b1 o1 x.length c1 b2 o2 y.length c2 x y w (aq _) (aq _) (by omega) (by omega) hc1 hc2).mono ?_;rintro e w' ⟨rfl,q,rfl⟩;rw[List.take_length,List.take_length];exact⟨rfl,gX _ _⟩
  ·obtain⟨A,c2,rfl,_⟩:=hy;have hy0:y=[]:=eB (by omega);subst hy0;refine(qJ (some ⟨b1,o1,none⟩) A x.length 0 c1 c2 (by omega) w).mono ?_;rintro e w' ⟨rfl,rfl⟩;refine⟨?_,aE _ _⟩;rw[bF (fun h:x=[]=>by rw[h] at h0;exact absurd h0 (Nat.lt_irrefl _))]
 ·obtain⟨A,c1,rfl,_⟩:=hx;obtain⟨C,c2,rfl,_⟩:=hy;have hx0:x.length=0:=(by omega);rw[hx0];exact none_of A C c1 c2 y.length rfl hx0
theorem sZ (s:List UInt8) (w:World) (hO:Okw w) (hs:s.length<=100000000):
 Calls Tryz.prog 205 #[.string (ae s)] w fun e w'=>e=.returned (.bool (bR s))/\Below w.heap.size w w':=by
 have HB:=aa (oo (ae s) w hO (by rw[bS];show s.length<=_;omega));unfold bY at HB;rw[show (ae s).data.toList=s from rfl] at HB;have hb:bR s=decide (Jd.bareL s=(s,0)):=rfl;obtain⟨r,hr⟩:=ac (Jd.bareL s);rw[hr] at HB hb;have en:=dE r.1 s;obtain⟨X,hX⟩:=ac (ae s);obtain⟨Y,hY⟩:=ac (⟨r.1.toArray⟩:ByteArray);rw[hX] at HB en ⊢;rw[hY] at HB;rw[show ae r.1=Y from hY] at en;clear hr hX hY hO;by_cases h0:r.2=0
 ·have hb2:Hid (bR s=decide (r.1=s)):=by
   unfold Hid;rw[hb];by_cases h1:r.1=s
   ·rw[bq h1,bq (by rw[<-h1,<-h0])]
   ·rw[bF h1,bF (fun e=>h1 (congrArg Prod.fst e))]
  rw[h0] at HB;obtain⟨c,hc⟩:=ac (decide (r.1=s));rw[hc] at en hb2;clear hb h0 hc;go_enter Tryz.func205,Tryz.ntmps205;(go_wp2_with fail);refine HB.out.mono ?_;rintro e w1 ⟨rfl,b1⟩;(go_wp2_with fail);go_ret;exact⟨by rw[hb2.out];rfl,b1⟩
 ·have hb2:Hid (bR s=false):=(by unfold Hid;rw[hb];exact bF (fun e=>h0 (congrArg Prod.snd e)));have hz:((r.2:Int)==0)=false:=(by simpa using h0);clear hb en;go_enter Tryz.func205,Tryz.ntmps205;(go_wp2_with fail);refine HB.out.mono ?_;rintro e w1 ⟨rfl,b1⟩;(go_wp2_with fail);go_ret;exact⟨by rw[hb2.out];rfl,b1⟩
theorem wF (v:Value) (l:List (List UInt8)) (w:World) (hT:Tabs w) (hR:ReadT w.heap.size w v (al l)) (hl:l.length<=140737488355328) (hs:∀ g∈l,g.length<=140737488355328):
 Calls Tryz.prog 207 #[v] w fun e w'=>e=.returned (.bool (kN l))/\Below w.heap.size w w':=by
 have hll:(al l).length=l.length:=cr _;obtain⟨n,hn⟩:=ac l.length;obtain⟨A,cap,hv,hA⟩:=id hR;rw[hll,hn] at hv;have hg:kN l=(decide (l.length<=8)&&decide (l=an l)&&!l.any (fun g=>!line g 100)):=rfl;by_cases h8:n<=8
 ·have h8z:¬ (8:Int)<(n:Int):=(by omega);have HG:=aa (oP v l w hR (by omega));rw[hn,bq h8,Bool.true_and] at hg;have HQ:Hid (∀ u w1,Below w.heap.size w w1->ReadT w1.heap.size w1 u (al (an l))->Calls Tryz.prog 233 #[v,u] w1 fun e w'=>e=.returned (.bool (decide (l=an l)))/\Below w1.heap.size w1 w'):=(fun u w1 b1 hu=>by have hlen:(an l).length<=l.length:=(by rw[<-gI l];exact co (List.length_filter_le _ _) (co (fE _) (by rw[List.length_mergeSort];exact aq _)));have:=qI v u (al l) (al (an l)) w1 w1.heap.size ((hR.below b1).more b1.size) hu (by omega) (by unfold al at hll ⊢;rw[cr];omega);have e:decide (al l=al (an l))=decide (l=an l):=(by have inj:∀ x y:List (List UInt8),al x=al y↔x=y:=(fun x y=>⟨fun h=>by have:=congrArg (List.map fun b:ByteArray=>b.data.toList) h;simpa [al,List.map_map,Function.comp_def] using this,fun h=>by rw[h]⟩);simp only[inj]);rwa [e] at this);have HCN:Hid (∀ w1,Below w.heap.size w w1->Calls Tryz.prog 119 #[v,.func (.func 235) #[] #[]] w1 fun e w'=>e=.returned (.bool (l.any (fun g=>!line g 100)))/\Below w1.heap.size w1 w'):=fun w1 b1=>by
   by_cases h0:0<n
   ·obtain⟨ad,rfl,hb,hc⟩:=hA (by omega);rw[hv];exact lV ad cap n l hn (by omega) hs w1 (hT.below b1) (Nat.lt_of_lt_of_le hb b1.size) (fun i b hi=>by rw[b1.cell (p:=ad.add i) (by rw[aC];exact hb)];exact hc i b hi)
   ·have hl0:l=[]:=eB (by omega);have hn0:n=0:=(by omega);rw[hv,hn0,hl0];refine(kL A cap _ w1).mono ?_;rintro e w' ⟨rfl,rfl⟩;exact⟨rfl,aE _ _⟩
  have HGR:=aa hg;obtain⟨b1,hb1⟩:=ac (decide (l=an l));obtain⟨b2,hb2⟩:∃ b,l.any (fun g=>!line g 100)=b:=⟨_,rfl⟩;rw[hb1,hb2] at HGR;rw[hb1] at HQ;rw[hb2] at HCN;rw[hv] at HG HQ HCN ⊢;clear hg hb1 hb2 hR hA hv hT hs hll hn;go_enter Tryz.func207,Tryz.ntmps207;(go_wp2_with fail);refine HG.out.mono ?_;rintro e w1 ⟨u,rfl,hu,bu⟩;have HQ1:=aa (HQ.out u w1 bu hu);have BU:=aa bu;clear bu hu;(go_wp2_with fail);refine HQ1.out.mono ?_;rintro e w2 ⟨rfl,b2w⟩;have B2:Hid (Below w.heap.size w w2):=BU.out.trans (b2w.mono BU.out.size);clear b2w;cases b1 with
  | false=>(go_wp2_with fail);go_ret;exact⟨by rw[HGR.out];rfl,B2.out⟩
  | true=>have HC1:=aa (HCN.out w2 B2.out);(go_wp2_with fail);refine HC1.out.mono ?_;rintro e w3 ⟨rfl,b3w⟩;have B3:Hid (Below w.heap.size w w3):=B2.out.trans (b3w.mono B2.out.size);clear b3w;(go_wp2_with fail);go_ret;exact⟨by rw[HGR.out];rfl,B3.out⟩
 ·have h8z:(8:Int)<(n:Int):=(by omega);have hf:Hid (kN l=false):=(by unfold Hid;rw[hg,hn,bF h8,Bool.false_and,Bool.false_and]);rw[hv];clear hg hR hA hv hT hs hll hn;go_enter Tryz.func207,Tryz.ntmps207;(go_wp2_with fail);go_ret;exact⟨by rw[hf.out];rfl,aE _ _⟩
theorem zx (s:Int) (ask app:Bool):gR s ask app=if s=0 then true else if s=1 then !ask else if s=2 then !app else if s=3 then !ask&&!app else false:=rfl
theorem yl (x:bj) (A:Option Addr) (n cap:Nat) (w:World):
 Calls Tryz.prog 208 #[e9 x (.slice A n cap)] w fun e w'=>e=.returned (.bool (gR x.sub x.ask x.app))/\Below w.heap.size w w':=by
 have hag:e9 x (.slice A n cap)=.agg #[.string (ae x.jid),.string (ae x.name),.slice A n cap,.int .i64 x.sub,.bool x.ask,.bool x.app]:=rfl;rw[hag];clear hag;obtain⟨J,hJ⟩:=ac (ae x.jid);obtain⟨N,hN⟩:=ac (ae x.name);obtain⟨s,hs⟩:=ac x.sub;obtain⟨ask,ha⟩:=ac x.ask;obtain⟨app,hp⟩:=ac x.app;rw[hJ,hN,hs,ha,hp];have hS:=zx s ask app;obtain⟨W1,hW1⟩:=ac (w.alloc (.cells #[.string J,.string N,.slice A n cap,.int .i64 s,.bool ask,.bool app] 53));obtain⟨bx,hbx⟩:=ac w.heap.size;have K1:Bk W1 bx 53 #[.string J,.string N,.slice A n cap,.int .i64 s,.bool ask,.bool app]:=by rw[<-hW1,<-hbx];exact Bk.new _ _ _
 have B1:Hid (Below w.heap.size w W1):=by rw[<-hW1];exact bp _ _
 have c3:W1.cell? ⟨bx,3,none⟩=some (.int .i64 s):=K1.cell 3;have c4:W1.cell? ⟨bx,4,none⟩=some (.bool ask):=K1.cell 4;have c5:W1.cell? ⟨bx,5,none⟩=some (.bool app):=K1.cell 5;have HW1:=aa hW1;have HBX:=aa hbx;clear hJ hN hs ha hp K1 hW1 hbx x;by_cases h0:s=0
 ·subst h0;have HS:Hid (gR 0 ask app=true):=rfl;clear hS;go_enter Tryz.func208,Tryz.ntmps208;(go_upto_region 1 with fail);rw[HW1.out,HBX.out];(go_wp2_with fail);go_ret;exact⟨by rw[HS.out];rfl,B1.out⟩
 ·have z0:(s==0)=false:=(by simpa using h0);rw[if_neg h0] at hS;by_cases h1:s=1
  ·subst h1;have HS:Hid (gR 1 ask app=!ask):=rfl;clear hS h0;go_enter Tryz.func208,Tryz.ntmps208;(go_upto_region 1 with fail);rw[HW1.out,HBX.out];(go_wp2_with fail);go_ret;exact⟨by rw[HS.out];rfl,B1.out⟩
  ·have z1:(s==1)=false:=(by simpa using h1);rw[if_neg h1] at hS;by_cases h2:s=2
   ·subst h2;have HS:Hid (gR 2 ask app=!app):=rfl;clear hS h0 h1;go_enter Tryz.func208,Tryz.ntmps208;(go_upto_region 1 with fail);rw[HW1.out,HBX.out];(go_wp2_with fail);go_ret;exact⟨by rw[HS.out];rfl,B1.out⟩
   ·have z2:(s==2)=false:=(by simpa using h2);rw[if_neg h2] at hS;by_cases h3:s=3
    ·subst h3;have HS:Hid (gR 3 ask app=(!ask&&!app)):=rfl;clear hS h0 h1 h2;cases ask with
     | true=>go_enter Tryz.func208,Tryz.ntmps208;(go_upto_region 1 with fail);rw[HW1.out,HBX.out];(go_wp2_with fail);go_ret;exact⟨by rw[HS.out];rfl,B1.out⟩
     | false=>go_enter Tryz.func208,Tryz.ntmps208;(go_upto_region 1 with fail);rw[HW1.out,HBX.out];(go_wp2_with fail);go_ret;exact⟨by rw[HS.out];rfl,B1.out⟩
    ·have z3:(s==3)=false:=(by simpa using h3);rw[if_neg h3] at hS;have HS:=aa hS;clear hS h0 h1 h2 h3;go_enter Tryz.func208,Tryz.ntmps208;(go_upto_region 1 with fail);rw[HW1.out,HBX.out];(go_wp2_with fail);go_ret;exact⟨by rw[HS.out];rfl,B1.out⟩
theorem gt (A:Option Addr) (n cap:Nat) (x:bj):e9 x (.slice A n cap)=.agg #[.string (ae x.jid),.string (ae x.name),.slice A n cap,.int .i64 x.sub,.bool x.ask,.bool x.app]:=rfl
theorem q9 (x:bj) (gv:Value) (w:World) (hO:Okw w) (hR:ReadT w.heap.size w gv (al x.groups)) (hj:x.jid.length<=100000000) (hn:x.name.length<=140737488355328) (hl:x.groups.length<=140737488355328) (hs:∀ g∈x.groups,g.length<=140737488355328):
 Calls Tryz.prog 168 #[e9 x gv] w fun e w'=>e=.returned (.bool (fP x))/\Below w.heap.size w w':=by
 obtain⟨A,cap,hv,_⟩:=id hR;obtain⟨n,hnn⟩:=ac ((al x.groups).length);rw[hnn] at hv;subst hv;obtain⟨W1,hW1⟩:=ac (w.alloc (.cells #[.string (ae x.jid),.string (ae x.name),.slice A n cap,.int .i64 x.sub,.bool x.ask,.bool x.app] 53));obtain⟨bx,hbx⟩:=ac w.heap.size;have K1:Hid (Bk W1 bx 53 #[.string (ae x.jid),.string (ae x.name),.slice A n cap,.int .i64 x.sub,.bool x.ask,.bool x.app]):=by rw[<-hW1,<-hbx];exact Bk.new _ _ _
 have B1:Hid (Below w.heap.size w W1):=by rw[<-hW1];exact bp _ _
 have hr:fP x=(bR x.jid&&line x.name 100&&kN x.groups&&gR x.sub x.ask x.app):=rfl;have HA:Hid (∀ W,Below w.heap.size w W->Calls Tryz.prog 205 #[.string (ae x.jid)] W fun e w'=>e=.returned (.bool (bR x.jid))/\Below W.heap.size W w'):=fun W h=>sZ x.jid W (hO.below h) hj
 have HL:Hid (∀ W,Below w.heap.size w W->Calls Tryz.prog 206 #[.string (ae x.name)] W fun e w'=>e=.returned (.bool (line x.name 100))/\Below W.heap.size W w'):=fun W h=>mq (ae x.name) W (hO.tabs.below h) (by rw[bS];exact hn)
 have HG:Hid (∀ W,Below w.heap.size w W->Calls Tryz.prog 207 #[.slice A n cap] W fun e w'=>e=.returned (.bool (kN x.groups))/\Below W.heap.size W w'):=fun W h=>wF _ x.groups W (hO.tabs.below h) ((hR.below h).more h.size) hl hs
 have HSB:Hid (∀ W,Calls Tryz.prog 208 #[.agg #[.string (ae x.jid),.string (ae x.name),.slice A n cap,.int .i64 x.sub,.bool x.ask,.bool x.app]] W fun e w'=>e=.returned (.bool (gR x.sub x.ask x.app))/\Below W.heap.size W w'):=fun W=>yl x A n cap W
 rw[gt];obtain⟨J,hJ⟩:=ac (ae x.jid);obtain⟨N,hN⟩:=ac (ae x.name);obtain⟨s,hs2⟩:=ac x.sub;obtain⟨ask,ha⟩:=ac x.ask;obtain⟨app,hp⟩:=ac x.app;obtain⟨b1,hb1⟩:=ac (bR x.jid);obtain⟨b2,hb2⟩:=ac (line x.name 100);obtain⟨b3,hb3⟩:=ac (kN x.groups);obtain⟨b4,hb4⟩:=ac (gR x.sub x.ask x.app);rw[hb1] at HA hr;rw[hb2] at HL hr;rw[hb3] at HG hr;rw[hb4] at HSB hr;rw[hJ] at HA HSB K1 hW1 ⊢;rw[hN] at HL HSB K1 hW1 ⊢;rw[hs2,ha,hp] at HSB K1 hW1 ⊢;have HRT:=aa hr;have HW1:=aa hW1;have HBX:=aa hbx;have c0:W1.cell? ⟨bx,0,none⟩=some (.string J):=K1.out.cell 0;clear hr hW1 hbx hO hR hnn hJ hN hs2 ha hp hb1 hb2 hb3 hb4 hj hn hl hs;go_enter Tryz.func168,Tryz.ntmps168;go_upto_region 1 with fail
 rw[HW1.out,HBX.out];have HA1:=aa (HA.out W1 B1.out);go_wp2_with fail
 refine HA1.out.mono ?_;rintro e w2 ⟨rfl,v2⟩;have B2:Hid (Below w.heap.size w w2):=B1.out.trans (v2.mono B1.out.size);have K2:Hid (Bk w2 bx 53 #[.string J,.string N,.slice A n cap,.int .i64 s,.bool ask,.bool app]):=K1.out.below v2 K1.out.lt;have c1:w2.cell? ⟨bx,1,none⟩=some (.string N):=K2.out.cell 1;clear v2 c0;cases b1 with
 | false=>(go_wp2_with fail);go_ret;exact⟨by rw[HRT.out];rfl,B2.out⟩
 | true=>
   have HL1:=aa (HL.out w2 B2.out);(go_wp2_with fail);refine HL1.out.mono ?_;rintro e w3 ⟨rfl,v3⟩;have B3:Hid (Below w.heap.size w w3):=B2.out.trans (v3.mono B2.out.size);have K3:Hid (Bk w3 bx 53 #[.string J,.string N,.slice A n cap,.int .i64 s,.bool ask,.bool app]):=K2.out.below v3 K2.out.lt;have c2:w3.cell? ⟨bx,2,none⟩=some (.slice A n cap):=K3.out.cell 2;clear v3 c1;cases b2 with
   | false=>(go_wp2_with fail);go_ret;exact⟨by rw[HRT.out];rfl,B3.out⟩
   | true=>
     have HG1:=aa (HG.out w3 B3.out);(go_wp2_with fail);refine HG1.out.mono ?_;rintro e w4 ⟨rfl,v4⟩;have B4:Hid (Below w.heap.size w w4):=B3.out.trans (v4.mono B3.out.size);have K4:Bk w4 bx 53 #[.string J,.string N,.slice A n cap,.int .i64 s,.bool ask,.bool app]:=K3.out.below v4 K3.out.lt;have d0:w4.cell? ⟨bx,0,none⟩=some (.string J):=K4.cell 0;have d1:w4.cell? ⟨bx,1,none⟩=some (.string N):=K4.cell 1;have d2:w4.cell? ⟨bx,2,none⟩=some (.slice A n cap):=K4.cell 2;have d3:w4.cell? ⟨bx,3,none⟩=some (.int .i64 s):=K4.cell 3;have d4:w4.cell? ⟨bx,4,none⟩=some (.bool ask):=K4.cell 4;have d5:w4.cell? ⟨bx,5,none⟩=some (.bool app):=K4.cell 5;clear v4 c2 K4;cases b3 with
     | false=>(go_wp2_with fail);go_ret;exact⟨by rw[HRT.out];rfl,B4.out⟩
     | true=>(go_wp2_with fail);refine(HSB.out w4).mono ?_;rintro e w5 ⟨rfl,v5⟩;(go_wp2_with fail);go_ret;exact⟨by rw[HRT.out];rfl,B4.out.trans (v5.mono B4.out.size)⟩
abbrev cL (w:World) (g:Nat) (a b c d e f:Value):World:=(((((w.setCell ⟨g,0,none⟩ a).setCell ⟨g,1,none⟩ b).setCell ⟨g,2,none⟩ c).setCell ⟨g,3,none⟩ d).setCell ⟨g,4,none⟩ e).setCell ⟨g,5,none⟩ f
theorem bs {w:World} {g:Nat} {t:TypeId} {x0 x1 x2 x3 x4 x5:Value} (h:Bk w g t #[x0,x1,x2,x3,x4,x5]) (a b c d e f:Value):Bk (cL w g a b c d e f) g t #[a,b,c,d,e,f]:=by have:=(((((h.put 0 a).put 1 b).put 2 c).put 3 d).put 4 e).put 5 f;simpa [cL] using this
theorem aF {w0 w:World} {B g:Nat} (h:Below B w0 w) (hg:B<=g) (a b c d e f:Value):Below B w0 (cL w g a b c d e f):=(((((h.setCell (p:=⟨g,0,none⟩) hg _).setCell (p:=⟨g,1,none⟩) hg _).setCell (p:=⟨g,2,none⟩) hg _).setCell (p:=⟨g,3,none⟩) hg _).setCell (p:=⟨g,4,none⟩) hg _).setCell (p:=⟨g,5,none⟩) hg _
theorem OwnT.less {B C:Nat} {w:World} {v:Value} {x:List ByteArray} (h:OwnT B w v x) (hC:C<=B):OwnT C w v x:=by
 refine⟨h.1,?_⟩;rcases h.2 with h2|⟨g,cap,cur,hv,hg,h3⟩
 ·exact .inl h2
 ·exact .inr ⟨g,cap,cur,hv,co hC hg,h3⟩
theorem gE (v:Value) (l:List (List UInt8)) (w:World) (B:Nat) (hR:ReadT B w v (al l)) (hl:l.length<=8000000000000):
 Calls Tryz.prog 61 #[v] w fun e w'=>∃ A cap,e=.returned (.slice A l.length cap)/\OwnT w.heap.size w' (.slice A l.length cap) (al l)/\Below w.heap.size w w':=by
 have hll:(al l).length=l.length:=cr _;have own_reads:∀ (v':Value) (w2:World),w2.ownsRow w.heap.size 9 1 v' l.length ((al l).map Value.string)->v'≠.slice none 0 0->∃ A cap,v'=.slice A l.length cap/\OwnT w.heap.size w2 v' (al l):=fun v' w2 ho hne=>by
  have ho2:OwnT w.heap.size w2 v' (al l):=by unfold OwnT cX;rw[hll];exact ho
  obtain⟨A,cap,hA⟩:=ho2.slice;rw[hll] at hA;exact⟨A,cap,hA,ho2⟩
 by_cases h0:0<l.length
 ·obtain⟨b,off,cap,hv,hb,hc⟩:=hR.flat (by omega);rw[hv];refine(Tryz.slices_Clone_string b off (al l).length cap (al l) w (aq _) (by omega) hc).mono ?_;rintro e w2 ⟨v',rfl,ho,hne,hbl⟩;rw[List.take_length,hll] at ho;obtain⟨A,cap2,rfl,hr⟩:=own_reads v' w2 ho hne;exact⟨A,cap2,rfl,hr,hbl⟩
 ·have hl0:l=[]:=eB (by omega);subst hl0;obtain⟨A,cap,hv,_⟩:=hR;rw[hv];cases A with
  | none=>refine(Tryz.slices_Clone_string_nil 0 cap w).mono ?_;rintro e w2 ⟨rfl,rfl⟩;exact⟨none,0,rfl,OwnT.nil _ _,aE _ _⟩
  | some a=>refine(Tryz.slices_Clone_string_zero a cap w).mono ?_;rintro e w2 ⟨v',rfl,ho,hne,hbl⟩;obtain⟨A,cap2,rfl,hr⟩:=own_reads v' w2 ho hne;exact⟨A,cap2,rfl,hr,hbl⟩
abbrev bB:=Option Addr × Nat × Nat
def sl (q:bB):Value:=.slice q.1 q.2.1 q.2.2
def ReadI (B:Nat) (w:World) (v:Value) (l:List (bj × bB)):Prop:=∃ A cap,v=.slice A l.length cap/\(0<l.length->∃ b off,A=some ⟨b,off,none⟩/\b<B/\∀ i p,l[i]?=some p->∀ c u,(gH p.1 (sl p.2))[c]?=some u->w.cell? ⟨b,off+i*6+c,none⟩=some u)/\∀ p∈l,ReadT B w (sl p.2) (al p.1.groups)
def zJ:Value:=.agg #[.string ⟨#[]⟩,.string ⟨#[]⟩,.slice none 0 0,.int .i64 0,.bool false,.bool false]
instance:Inhabited bj:=⟨⟨[],[],[],0,false,false⟩⟩
end
namespace Ct
open Go.Proofs.YtbgaglcgennhiaaGreatDoor Tx
def dD (s:List UInt8) (k:Nat):List UInt8:=if (Jd.bareL s).2=0 then (Jd.bareL s).1 else ([[97,64,104],[98,64,104],[99,64,104],[100,64,120,46,121],[104]]:List (List UInt8)).getD (k % 5) []
theorem pm {b:UInt8} (h:Jd.fitB 1 b=true):Jd.part true 1 [b]=([b],0):=by show Jd.sizedL 64 (Pr.prepL 1 [b])=_;rw[Jd.fit_prep (fun x hx=>by rw[List.mem_singleton] at hx;rw[hx];exact h)];simp[Jd.sizedL]
theorem zX:Jd.domL [120,46,121]=([120,46,121],0):=Jd.dom_of (Jd.fit_prep (by decide)) (by decide) (by decide) (by decide)
theorem pi (s:List UInt8) (k:Nat):Jd.bareL (dD s k)=(dD s k,0):=by
 unfold dD;by_cases h:(Jd.bareL s).2=0
 ·rw[if_pos h];unfold Jd.bareL at h;by_cases hp:(Jd.parseL s).2=0
  ·rw[if_pos hp] at h;by_cases hr:(Jd.parseL s).1.2.2=[]
   ·have hpe:Jd.parseL s=((Jd.parseL s).1,0):=Prod.ext rfl hp;rw[Jd.bare_ok hpe hr];exact Jd.bare_back hpe hr
   ·rw[if_neg hr] at h;exact absurd h (by simp)
  ·rw[if_neg hp] at h;exact absurd h hp
 ·rw[if_neg h];have hk:k % 5=0\/k % 5=1\/k % 5=2\/k % 5=3\/k % 5=4:=(by omega);have one:∀ b:UInt8,Jd.fitB 1 b=true->Jd.cutB 47 [b,64,104]=([b,64,104],[],false)->Jd.halfL [b,64,104]=([b],[104],true)->Jd.bareL [b,64,104]=([b,64,104],0):=(fun b h1 h2 h3=>by have h:Jd.parseL [b,64,104]=(([b],[104],[]),0):=(by rw[Jd.parse_eq (s:=[b,64,104]) (c:=([b,64,104],[],false)) (d:=([b],[104],true)) h2 h3];simp only;rw[wl,pm h1];rfl);rw[Jd.bare_ok h rfl];rfl);rcases hk with e|e|e|e|e
  ·rw[e];exact yP
  ·rw[e];exact one 98 (by decide) (by decide) (by decide)
  ·rw[e];exact one 99 (by decide) (by decide) (by decide)
  ·rw[e];show Jd.bareL [100,64,120,46,121]=([100,64,120,46,121],0);have h:Jd.parseL [100,64,120,46,121]=(([100],[120,46,121],[]),0):=(by rw[Jd.parse_eq (s:=[100,64,120,46,121]) (c:=([100,64,120,46,121],[],false)) (d:=([100],[120,46,121],true)) (by decide) (by decide)];simp only;rw[zX,pm (by decide)];rfl);rw[Jd.bare_ok h rfl];rfl
  ·rw[e];show Jd.bareL [104]=([104],0);have h:Jd.parseL [104]=(([],[104],[]),0):=(by rw[Jd.parse_eq (s:=[104]) (c:=([104],[],false)) (d:=([],[104],false)) (by decide) (by decide)];simp only;rw[wl];rfl);rw[Jd.bare_ok h rfl];rfl
end Ct
section
open Tx Ct
theorem mf (s:List UInt8) (k:Nat):bR (dD s k)=true:=bq (pi s k)
structure NearI (d:bj):Prop where
 jid:∃ s k,d.jid=dD s k
 name:line d.name 100=true
 groups:∃ l,d.groups=an l/\l.length<=4/\∀ g∈l,line g 30=true
 sub:d.sub=0\/d.sub=1\/d.sub=2\/d.sub=3
 ask:d.ask=true->d.sub=0\/d.sub=2
 app:d.app=true->d.sub=0\/d.sub=1
theorem wG {l:List (List UInt8)} (hl:l.length<=8) (hx:∀ g∈l,line g 30=true):kN (an l)=true:=by
 have h:=tp hl hx (by decide);have h2:=m9 h;unfold lo at h;simp only[Bool.and_eq_true,decide_eq_true_eq,List.all_eq_true] at h;unfold kN;rw[bq h.1.1,bq h2.symm,Bool.and_self,Bool.true_and,Bool.not_eq_true'];refine List.any_eq_false.2 fun g hg=>?_
 rw[(h.1.2 g hg).2];decide
theorem NearI.right {d:bj} (h:NearI d):fP d=true:=by
 obtain⟨s,k,hj⟩:=h.jid;obtain⟨l,hg,hl,hx⟩:=h.groups;unfold fP;rw[hj,mf,h.name,hg,wG (by omega) hx,Bool.true_and,Bool.true_and,Bool.true_and];have ha:=h.ask;have hp:=h.app;unfold gR;rcases h.sub with e|e|e|e<;>rw[e] at ha hp ⊢
 ·rfl
 ·have:d.ask=false:=(by cases hd:d.ask with|false=>rfl|true=>exact absurd (ha hd) (by decide));rw[this];rfl
 ·have:d.app=false:=(by cases hd:d.app with|false=>rfl|true=>exact absurd (hp hd) (by decide));rw[this];rfl
 ·have h1:d.ask=false:=(by cases hd:d.ask with|false=>rfl|true=>exact absurd (ha hd) (by decide));have h2:d.app=false:=(by cases hd:d.app with|false=>rfl|true=>exact absurd (hp hd) (by decide));rw[h1,h2];rfl
end
section
open Go.RowKit Tx Ct
theorem oQ (A:Option Addr) (cap:Nat) (fv:Value) (w:World):Calls Tryz.prog 169 #[.slice A 0 cap,fv] w fun e w'=>e=.returned (.int .i64 (-1))/\w'=w:=by
 go_enter Tryz.func169,Tryz.ntmps169;go_wp2_with fail
 refine wp_loop_rounds 1 ?_;rw[rounds_succ];go_wp2_with fail
 go_ret;exact⟨rfl,rfl⟩
def zN (l:List (bj × bB)) (j:List UInt8) (w:World) (e:Ending) (w':World):Prop:=
 Below w.heap.size w w'/\((l.find? (fun p=>decide (p.1.jid=j))=none/\e=.returned (.tuple #[zJ,.bool false])) \/
  ∃ p,l.find? (fun p=>decide (p.1.jid=j))=some p/\e=.returned (.tuple #[e9 p.1 (sl p.2),.bool true]))
theorem sE:∀ {l:List (bj × bB)} {j:List UInt8} {k:Nat} {p:bj × bB},l[k]?=some p->p.1.jid=j->(∀ (i:Nat) (q:bj × bB),i<k->l[i]?=some q->q.1.jid≠j)->l.find? (fun p=>decide (p.1.jid=j))=some p
 | a::l,j,0,p,h,hj,_=>by obtain rfl:a=p:=(by simpa using h);rw[List.find?_cons_of_pos (by simpa using hj)]
 | a::l,j,k+1,p,h,hj,hn=>by rw[List.find?_cons_of_neg (by simpa using hn 0 a (Nat.succ_pos k) rfl)];exact sE (k:=k) (by simpa using h) hj (fun i q hi hq=>hn (i+1) q (by omega) (by simpa using hq))
set_option linter.unusedSimpArgs false in
theorem ln (v:Value) (l:List (bj × bB)) (j:List UInt8) (w:World) (hR:ReadI w.heap.size w v l) (hl:l.length<=1000000):
 Calls Tryz.prog 90 #[v,.string (ae j)] w fun e w'=>zN l j w e w':=by
 obtain⟨A,cap,rfl,hA,_⟩:=hR;obtain⟨W1,hW1⟩:=ac (w.alloc (.cells #[.string ⟨#[]⟩,.string ⟨#[]⟩,.slice none 0 0,.int .i64 0,.bool false,.bool false] 53));obtain⟨R,hRR⟩:=ac w.heap.size;have K1:Hid (Bk W1 R 53 #[.string ⟨#[]⟩,.string ⟨#[]⟩,.slice none 0 0,.int .i64 0,.bool false,.bool false]):=by rw[<-hW1,<-hRR];exact Bk.new _ _ _
 have B1:Hid (Below w.heap.size w W1):=by rw[<-hW1];exact bp _ _
 have HWR:Hid (w.heap.size<=R):=by rw[<-hRR];exact aq _
 obtain⟨n,hn⟩:=ac l.length;have HN:=aa hn;rw[hn] at hA hl ⊢;have HA:Hid (0<n->∃ b off,A=some ⟨b,off,none⟩/\∀ i p,l[i]?=some p->∀ c u,(gH p.1 (sl p.2))[c]?=some u->W1.cell? ⟨b,off+i*6+c,none⟩=some u):=fun h0=>by obtain⟨b,off,ha,hb,hc⟩:=hA h0;exact⟨b,off,ha,fun i p hp c u hu=>by rw[B1.out.cell (p:=⟨b,off+i*6+c,none⟩) hb];exact hc i p hp c u hu⟩
 have HJE:Hid (∀ x:bj,((ae x.jid).toList==(ae j).toList)=decide (x.jid=j)):=fun x=>by
  by_cases h:x.jid=j
  ·rw[h,bq rfl];simp
  ·rw[bF h];have hne:(ae x.jid).toList≠(ae j).toList:=(fun e=>h (by have e2:(ae x.jid).data.toList=(ae j).data.toList:=(by rw[<-ByteArray.toList_eq,<-ByteArray.toList_eq,e]);exact e2));simpa using hne
 have HFN:Hid (∀ k p,l[k]?=some p->p.1.jid=j->(∀ (i:Nat) (q:bj × bB),i<k->l[i]?=some q->q.1.jid≠j)->l.find? (fun p=>decide (p.1.jid=j))=some p):=fun k p=>sE
 have HNO:Hid ((∀ (i:Nat) (q:bj × bB),i<n->l[i]?=some q->q.1.jid≠j)->l.find? (fun p=>decide (p.1.jid=j))=none):=fun h=>List.find?_eq_none.2 fun p hp=>by obtain⟨i,hi,rfl⟩:=List.getElem_of_mem hp;simpa using h i _ (by omega) (aQ hi)
 obtain⟨Y,hY⟩:=ac (ae j);rw[hY] at HJE ⊢;have HW1:=aa hW1;have HRR:=aa hRR;clear hA hn hY hW1 hRR;go_enter Tryz.func90,Tryz.ntmps90;go_upto_region 1 with fail
 (try rw[HW1.out]);(try rw[HRR.out]);go_wp2_with fail
 go_loopw [6] (fun iv wr=>∃ k:Nat,k<=n/\iv=.int .i64 k/\Hid (∀ (i:Nat) (q:bj × bB),i<k->l[i]?=some q->q.1.jid≠j)/\Hid (W1=wr)) (fun iv _=>n-(intOf iv).toNat)
 case atStart=>exact⟨0,bI _,rfl,fun i q hi=>absurd hi (Nat.not_lt_zero _),by first|exact trivial|exact rfl⟩
 case round=>
  obtain⟨k,hk,rfl,HB,HWW⟩:=hrel;have hww:=HWW.out;clear HWW;subst hww;by_cases hkn:k<n
  ·have hkz:(k:Int)<(n:Int):=(by omega);have hk0:(0:Int)<=(k:Int):=(by omega);obtain⟨b,off,rfl,hc⟩:=HA.out (by omega);obtain⟨⟨x,g⟩,hx⟩:∃ p,l[k]?=some p:=⟨_,aQ (by rw[HN.out];exact hkn)⟩;obtain⟨P,hP⟩:=ac (off+k*6);have hcc:=(fun c u hu=>hc k _ hx c u hu);rw[hP] at hcc;have hje:=HJE.out x;have HX:=aa hx;obtain⟨xj,xm,xg,xs,xk,xa⟩:=x;obtain⟨gA,gn,gc⟩:=g;have p0:W1.cell? ⟨b,P,none⟩=some (.string (ae xj)):=hcc 0 _ rfl;have p1:W1.cell? ⟨b,P+1,none⟩=some (.string (ae xm)):=hcc 1 _ rfl;have p2:W1.cell? ⟨b,P+2,none⟩=some (.slice gA gn gc):=hcc 2 _ rfl;have p3:W1.cell? ⟨b,P+3,none⟩=some (.int .i64 xs):=hcc 3 _ rfl;have p4:W1.cell? ⟨b,P+4,none⟩=some (.bool xk):=hcc 4 _ rfl;have p5:W1.cell? ⟨b,P+5,none⟩=some (.bool xa):=hcc 5 _ rfl;have HAG:Hid (e9 ⟨xj,xm,xg,xs,xk,xa⟩ (sl (gA,gn,gc))=.agg #[.string (ae xj),.string (ae xm),.slice gA gn gc,.int .i64 xs,.bool xk,.bool xa]):=rfl;obtain⟨X,hX⟩:=ac (ae xj);obtain⟨M,hM⟩:=ac (ae xm);have hje2:(X.toList==Y.toList)=decide (xj=j):=(by rw[<-hX];exact hje);rw[hX] at p0;rw[hM] at p1;rw[hX,hM] at HAG;clear hc hcc hx hje hX hM;by_cases hq:xj=j
   ·rw[bq hq] at hje2;have HF:=aa (HFN.out k _ HX.out hq HB.out);have r0:∃ u,W1.cell? ⟨R,0,none⟩=some u:=⟨_,K1.out.cell 0⟩;have K5:=aa (bs K1.out (.string X) (.string M) (.slice gA gn gc) (.int .i64 xs) (.bool xk) (.bool xa));have B5:=aa (aF B1.out HWR.out (.string X) (.string M) (.slice gA gn gc) (.int .i64 xs) (.bool xk) (.bool xa));obtain⟨w5,hw5⟩:=ac (cL W1 R (.string X) (.string M) (.slice gA gn gc) (.int .i64 xs) (.bool xk) (.bool xa));rw[hw5] at K5 B5;clear r0 hq;obtain⟨u0,r0⟩:∃ u,W1.cell? ⟨R,0,none⟩=some u:=⟨_,K1.out.cell 0⟩;have g0:W1.frozen? ⟨R,0,none⟩=false:=K1.out.free 0;obtain⟨u1,r1⟩:∃ u,W1.cell? ⟨R,1,none⟩=some u:=⟨_,K1.out.cell 1⟩;have g1:W1.frozen? ⟨R,1,none⟩=false:=K1.out.free 1;obtain⟨u2,r2⟩:∃ u,W1.cell? ⟨R,2,none⟩=some u:=⟨_,K1.out.cell 2⟩;have g2:W1.frozen? ⟨R,2,none⟩=false:=K1.out.free 2;obtain⟨u3,r3⟩:∃ u,W1.cell? ⟨R,3,none⟩=some u:=⟨_,K1.out.cell 3⟩;have g3:W1.frozen? ⟨R,3,none⟩=false:=K1.out.free 3;obtain⟨u4,r4⟩:∃ u,W1.cell? ⟨R,4,none⟩=some u:=⟨_,K1.out.cell 4⟩;have g4:W1.frozen? ⟨R,4,none⟩=false:=K1.out.free 4;obtain⟨u5,r5⟩:∃ u,W1.cell? ⟨R,5,none⟩=some u:=⟨_,K1.out.cell 5⟩;have g5:W1.frozen? ⟨R,5,none⟩=false:=K1.out.free 5;(go_wp2_with fail);(try rw[hw5]);have j0:w5.cell? ⟨R,0,none⟩=some (.string X):=K5.out.cell 0;have j1:w5.cell? ⟨R,1,none⟩=some (.string M):=K5.out.cell 1;have j2:w5.cell? ⟨R,2,none⟩=some (.slice gA gn gc):=K5.out.cell 2;have j3:w5.cell? ⟨R,3,none⟩=some (.int .i64 xs):=K5.out.cell 3;have j4:w5.cell? ⟨R,4,none⟩=some (.bool xk):=K5.out.cell 4;have j5:w5.cell? ⟨R,5,none⟩=some (.bool xa):=K5.out.cell 5;refine bodyPost_ret (v:=.tuple #[.agg #[.string X,.string M,.slice gA gn gc,.int .i64 xs,.bool xk,.bool xa],.bool true]) (by simp[results,Tryz.results90,go_sem,j0,j1,j2,j3,j4,j5]) rfl ?_;exact⟨B5.out,.inr ⟨_,HF.out,by rw[HAG.out]⟩⟩
   ·rw[bF hq] at hje2;have HB2:Hid (∀ (i:Nat) (q:bj × bB),i<k+1->l[i]?=some q->q.1.jid≠j):=fun i q hi h=>by
     rcases Nat.lt_or_ge i k with h1|h1
     ·exact HB.out i q h1 h
     ·obtain rfl:i=k:=(by omega);rw[HX.out] at h;obtain rfl:=Option.some.inj h;exact hq
    clear hq;(go_wp2_with fail);go_roundw;case rel=>exact⟨k+1,by omega,by go_num,HB2,by first|exact trivial|exact rfl⟩
    case measure=>simp[intOf];omega
  ·have hkz:¬ (k:Int)<(n:Int):=(by omega);have HF:=aa (HNO.out (fun i q hi h=>HB.out i q (by omega) h));have r0:W1.cell? ⟨R,0,none⟩=some (.string ⟨#[]⟩):=K1.out.cell 0;have g0:W1.frozen? ⟨R,0,none⟩=false:=K1.out.free 0;have r1:W1.cell? ⟨R,1,none⟩=some (.string ⟨#[]⟩):=K1.out.cell 1;have g1:W1.frozen? ⟨R,1,none⟩=false:=K1.out.free 1;have r2:W1.cell? ⟨R,2,none⟩=some (.slice none 0 0):=K1.out.cell 2;have g2:W1.frozen? ⟨R,2,none⟩=false:=K1.out.free 2;have r3:W1.cell? ⟨R,3,none⟩=some (.int .i64 0):=K1.out.cell 3;have g3:W1.frozen? ⟨R,3,none⟩=false:=K1.out.free 3;have r4:W1.cell? ⟨R,4,none⟩=some (.bool false):=K1.out.cell 4;have g4:W1.frozen? ⟨R,4,none⟩=false:=K1.out.free 4;have r5:W1.cell? ⟨R,5,none⟩=some (.bool false):=K1.out.cell 5;have g5:W1.frozen? ⟨R,5,none⟩=false:=K1.out.free 5;have R5:=aa (bs K1.out (.string ⟨#[]⟩) (.string ⟨#[]⟩) (.slice none 0 0) (.int .i64 0) (.bool false) (.bool false));have B5:=aa (aF B1.out HWR.out (.string ⟨#[]⟩) (.string ⟨#[]⟩) (.slice none 0 0) (.int .i64 0) (.bool false) (.bool false));obtain⟨w5,hw5⟩:=ac (cL W1 R (.string ⟨#[]⟩) (.string ⟨#[]⟩) (.slice none 0 0) (.int .i64 0) (.bool false) (.bool false));rw[hw5] at R5 B5;(go_wp2_with fail);have j0:w5.cell? ⟨R,0,none⟩=some (.string ⟨#[]⟩):=R5.out.cell 0;have j1:w5.cell? ⟨R,1,none⟩=some (.string ⟨#[]⟩):=R5.out.cell 1;have j2:w5.cell? ⟨R,2,none⟩=some (.slice none 0 0):=R5.out.cell 2;have j3:w5.cell? ⟨R,3,none⟩=some (.int .i64 0):=R5.out.cell 3;have j4:w5.cell? ⟨R,4,none⟩=some (.bool false):=R5.out.cell 4;have j5:w5.cell? ⟨R,5,none⟩=some (.bool false):=R5.out.cell 5;refine bodyPost_ret (v:=.tuple #[.agg #[.string ⟨#[]⟩,.string ⟨#[]⟩,.slice none 0 0,.int .i64 0,.bool false,.bool false],.bool false]) (by simp[results,Tryz.results90,go_sem,j0,j1,j2,j3,j4,j5]) rfl ?_;exact⟨B5.out,.inl ⟨HF.out,rfl⟩⟩
theorem qU (x:bj) (g1 g2:bB) (w:World) (h1:ReadT w.heap.size w (sl g1) (al x.groups)) (h2:ReadT w.heap.size w (sl g2) (al x.groups)) (hl:x.groups.length<=140737488355328):
 Calls Tryz.prog 82 #[e9 x (sl g1),e9 x (sl g2)] w fun e w'=>e=.returned (.bool true)/\Below w.heap.size w w':=by
 obtain⟨pA,pn,pc⟩:=g1;obtain⟨qA,qn,qc⟩:=g2;have HPL:Hid (∀ W,Below w.heap.size w W->Calls Tryz.prog 23 #[.slice pA pn pc,.slice qA qn qc] W fun e w'=>e=.returned (.bool true)/\Below W.heap.size W w'):=fun W hW=>by have:=lg W.heap.size (.slice pA pn pc) (.slice qA qn qc) (al x.groups) (al x.groups) W ((h1.below hW).more hW.size) ((h2.below hW).more hW.size) (by unfold al;rw[cr];exact hl) (by unfold al;rw[cr];exact hl);rw[bq rfl] at this;exact this
 have e1:e9 x (sl (pA,pn,pc))=.agg #[.string (ae x.jid),.string (ae x.name),.slice pA pn pc,.int .i64 x.sub,.bool x.ask,.bool x.app]:=rfl;have e2:e9 x (sl (qA,qn,qc))=.agg #[.string (ae x.jid),.string (ae x.name),.slice qA qn qc,.int .i64 x.sub,.bool x.ask,.bool x.app]:=rfl;rw[e1,e2];obtain⟨X,hX⟩:=ac (ae x.jid);obtain⟨M,hM⟩:=ac (ae x.name);obtain⟨xs,hs⟩:=ac x.sub;obtain⟨xk,hk⟩:=ac x.ask;obtain⟨xa,ha⟩:=ac x.app;rw[hX,hM,hs,hk,ha];clear e1 e2 hX hM hs hk ha h1 h2 hl;obtain⟨W1,hW1⟩:=ac (w.alloc (.cells #[.string X,.string M,.slice pA pn pc,.int .i64 xs,.bool xk,.bool xa] 53));obtain⟨p,hp⟩:=ac w.heap.size;have k1:Bk W1 p 53 #[.string X,.string M,.slice pA pn pc,.int .i64 xs,.bool xk,.bool xa]:=by rw[<-hW1,<-hp];exact Bk.new _ _ _
 have b1:Below w.heap.size w W1:=by rw[<-hW1];exact bp _ _
 obtain⟨W2,hW2⟩:∃ W1',W1.alloc (.cells #[.string X,.string M,.slice qA qn qc,.int .i64 xs,.bool xk,.bool xa] 53)=W1':=⟨_,rfl⟩;obtain⟨q,hq⟩:=ac W1.heap.size;have k2:Bk W2 q 53 #[.string X,.string M,.slice qA qn qc,.int .i64 xs,.bool xk,.bool xa]:=by rw[<-hW2,<-hq];exact Bk.new _ _ _
 have b2:Below W1.heap.size W1 W2:=by rw[<-hW2];exact bp _ _
 have B2:Hid (Below w.heap.size w W2):=b1.trans (b2.mono b1.size);have k3:=k1.below b2 k1.lt;have HP:=aa hp;have c0:W2.cell? ⟨p,0,none⟩=some (.string X):=k3.cell 0;have d0:W2.cell? ⟨q,0,none⟩=some (.string X):=k2.cell 0;have c1:W2.cell? ⟨p,1,none⟩=some (.string M):=k3.cell 1;have d1:W2.cell? ⟨q,1,none⟩=some (.string M):=k2.cell 1;have c2:W2.cell? ⟨p,2,none⟩=some (.slice pA pn pc):=k3.cell 2;have d2:W2.cell? ⟨q,2,none⟩=some (.slice qA qn qc):=k2.cell 2;have c3:W2.cell? ⟨p,3,none⟩=some (.int .i64 xs):=k3.cell 3;have d3:W2.cell? ⟨q,3,none⟩=some (.int .i64 xs):=k2.cell 3;have c4:W2.cell? ⟨p,4,none⟩=some (.bool xk):=k3.cell 4;have d4:W2.cell? ⟨q,4,none⟩=some (.bool xk):=k2.cell 4;have c5:W2.cell? ⟨p,5,none⟩=some (.bool xa):=k3.cell 5;have d5:W2.cell? ⟨q,5,none⟩=some (.bool xa):=k2.cell 5;have t1:(X.toList==X.toList)=true:=by simp
 have t2:(M.toList==M.toList)=true:=by simp
 clear k1 k2 k3 b1 b2;go_enter Tryz.func82,Tryz.ntmps82;go_wp2_with fail
 refine(HPL.out W2 B2.out).mono ?_;rintro e w3 ⟨rfl,b3⟩;have BF:Hid (Below w.heap.size w w3):=B2.out.trans (b3.mono B2.out.size);clear b3;go_wp2_with fail
 go_ret;exact⟨rfl,by first|exact BF.out|(rw[<-HP.out];exact BF.out)⟩
theorem Af {l l2:List (bj × bB)} (hm:l.map (·.1)=l2.map (·.1)) {k:Nat} {x:bj} {g:bB} (h:l[k]?=some (x,g)):∃ g2,l2[k]?=some (x,g2):=by
 have h2:(l2.map (·.1))[k]?=some x:=by rw[<-hm,List.getElem?_map,h];rfl
 rw[List.getElem?_map] at h2;obtain⟨⟨y,g2⟩,hy,rfl⟩:=Option.map_eq_some_iff.1 h2;exact⟨g2,hy⟩
theorem rM (v u:Value) (l l2:List (bj × bB)) (w:World) (h1:ReadI w.heap.size w v l) (h2:ReadI w.heap.size w u l2) (hm:l.map (·.1)=l2.map (·.1)) (hl:l.length<=1000000) (hg:∀ p∈l,p.1.groups.length<=140737488355328):
 Calls Tryz.prog 81 #[v,u,.func (.func 82) #[] #[]] w fun e w'=>e=.returned (.bool true)/\Below w.heap.size w w':=by
 obtain⟨A1,cap1,rfl,hA1,hT1⟩:=h1;obtain⟨A2,cap2,rfl,hA2,hT2⟩:=h2;have hll:l2.length=l.length:=by have:=congrArg List.length hm;simpa using this.symm
 rw[hll] at hA2 ⊢;obtain⟨n,hn⟩:=ac l.length;have HN:=aa hn;rw[hn] at hA1 hA2 hl ⊢;have HA1:=aa hA1;have HA2:=aa hA2;have HT1:=aa hT1;have HT2:=aa hT2;have HMM:=aa hm;have HGG:=aa hg;have hnn:((n:Int) != (n:Int))=false:=by simp
 clear hA1 hA2 hT1 hT2 hm hg hn hll;go_enter Tryz.func81,Tryz.ntmps81;go_wp2_with fail
 go_loopw [7] (fun i wr=>∃ (k:Nat),k<=n/\i=.int .i64 k/\Hid (Below w.heap.size w wr)) (fun i _=>n-(intOf i).toNat)
 case atStart=>exact⟨0,bI _,rfl,aE _ _⟩
 case round=>
  obtain⟨k,hk,rfl,BW⟩:=hrel;by_cases hkn:k<n
  ·have hkz:(k:Int)<(n:Int):=(by omega);have hk0:(0:Int)<=(k:Int):=(by omega);obtain⟨b1,o1,rfl,hb1,hc1⟩:=HA1.out (by omega);obtain⟨b2,o2,rfl,hb2,hc2⟩:=HA2.out (by omega);obtain⟨⟨x,g1⟩,hx⟩:∃ p,l[k]?=some p:=⟨_,aQ (by rw[HN.out];exact hkn)⟩;obtain⟨g2,hx2⟩:=Af HMM.out hx;have hm1:(x,g1)∈l:=fA hx;have hm2:(x,g2)∈l2:=fA hx2;have BWW:∀ W,Below wr.heap.size wr W->Below w.heap.size w W:=(fun W hW=>BW.out.trans (hW.mono BW.out.size));have hcal:∀ p:Sy.Bel wr,Calls Tryz.prog 82 #[e9 x (sl g1),e9 x (sl g2)] p.v fun e w'=>e=.returned (.bool true)/\Below p.v.heap.size p.v w':=(fun p=>qU x g1 g2 p.v (((HT1.out _ hm1).below (BWW p.v p.h)).more (BWW p.v p.h).size) (((HT2.out _ hm2).below (BWW p.v p.h)).more (BWW p.v p.h).size) (HGG.out _ hm1));obtain⟨P,hP⟩:=ac (o1+k*6);obtain⟨Q,hQ⟩:=ac (o2+k*6);obtain⟨xj,xm,xg,xs,xk,xa⟩:=x;obtain⟨pA,pn,pc⟩:=g1;obtain⟨qA,qn,qc⟩:=g2;obtain⟨X,hX⟩:=ac (ae xj);obtain⟨M,hM⟩:=ac (ae xm);have e1:gH ⟨xj,xm,xg,xs,xk,xa⟩ (sl (pA,pn,pc))=[.string X,.string M,.slice pA pn pc,.int .i64 xs,.bool xk,.bool xa]:=(by rw[<-hX,<-hM];rfl);have e2:gH ⟨xj,xm,xg,xs,xk,xa⟩ (sl (qA,qn,qc))=[.string X,.string M,.slice qA qn qc,.int .i64 xs,.bool xk,.bool xa]:=(by rw[<-hX,<-hM];rfl);have q0:∀ v:Sy.Bel wr,v.v.cell? ⟨b1,P,none⟩=some (.string X):=(fun v=>by rw[(BWW v.v v.h).cell (p:=⟨b1,P,none⟩) hb1,<-hP];exact hc1 k _ hx 0 _ (by rw[e1];rfl));have r0:∀ v:Sy.Bel wr,v.v.cell? ⟨b2,Q,none⟩=some (.string X):=(fun v=>by rw[(BWW v.v v.h).cell (p:=⟨b2,Q,none⟩) hb2,<-hQ];exact hc2 k _ hx2 0 _ (by rw[e2];rfl));have q1:∀ v:Sy.Bel wr,v.v.cell? ⟨b1,P+1,none⟩=some (.string M):=(fun v=>by rw[(BWW v.v v.h).cell (p:=⟨b1,P+1,none⟩) hb1,<-hP];exact hc1 k _ hx 1 _ (by rw[e1];rfl));have r1:∀ v:Sy.Bel wr,v.v.cell? ⟨b2,Q+1,none⟩=some (.string M):=(fun v=>by rw[(BWW v.v v.h).cell (p:=⟨b2,Q+1,none⟩) hb2,<-hQ];exact hc2 k _ hx2 1 _ (by rw[e2];rfl));have q2:∀ v:Sy.Bel wr,v.v.cell? ⟨b1,P+2,none⟩=some (.slice pA pn pc):=(fun v=>by rw[(BWW v.v v.h).cell (p:=⟨b1,P+2,none⟩) hb1,<-hP];exact hc1 k _ hx 2 _ (by rw[e1];rfl));have r2:∀ v:Sy.Bel wr,v.v.cell? ⟨b2,Q+2,none⟩=some (.slice qA qn qc):=(fun v=>by rw[(BWW v.v v.h).cell (p:=⟨b2,Q+2,none⟩) hb2,<-hQ];exact hc2 k _ hx2 2 _ (by rw[e2];rfl));have q3:∀ v:Sy.Bel wr,v.v.cell? ⟨b1,P+3,none⟩=some (.int .i64 xs):=(fun v=>by rw[(BWW v.v v.h).cell (p:=⟨b1,P+3,none⟩) hb1,<-hP];exact hc1 k _ hx 3 _ (by rw[e1];rfl));have r3:∀ v:Sy.Bel wr,v.v.cell? ⟨b2,Q+3,none⟩=some (.int .i64 xs):=(fun v=>by rw[(BWW v.v v.h).cell (p:=⟨b2,Q+3,none⟩) hb2,<-hQ];exact hc2 k _ hx2 3 _ (by rw[e2];rfl));have q4:∀ v:Sy.Bel wr,v.v.cell? ⟨b1,P+4,none⟩=some (.bool xk):=(fun v=>by rw[(BWW v.v v.h).cell (p:=⟨b1,P+4,none⟩) hb1,<-hP];exact hc1 k _ hx 4 _ (by rw[e1];rfl));have r4:∀ v:Sy.Bel wr,v.v.cell? ⟨b2,Q+4,none⟩=some (.bool xk):=(fun v=>by rw[(BWW v.v v.h).cell (p:=⟨b2,Q+4,none⟩) hb2,<-hQ];exact hc2 k _ hx2 4 _ (by rw[e2];rfl));have q5:∀ v:Sy.Bel wr,v.v.cell? ⟨b1,P+5,none⟩=some (.bool xa):=(fun v=>by rw[(BWW v.v v.h).cell (p:=⟨b1,P+5,none⟩) hb1,<-hP];exact hc1 k _ hx 5 _ (by rw[e1];rfl));have r5:∀ v:Sy.Bel wr,v.v.cell? ⟨b2,Q+5,none⟩=some (.bool xa):=(fun v=>by rw[(BWW v.v v.h).cell (p:=⟨b2,Q+5,none⟩) hb2,<-hQ];exact hc2 k _ hx2 5 _ (by rw[e2];rfl));have a1:e9 ⟨xj,xm,xg,xs,xk,xa⟩ (sl (pA,pn,pc))=.agg #[.string X,.string M,.slice pA pn pc,.int .i64 xs,.bool xk,.bool xa]:=(by unfold e9;rw[e1]);have a2:e9 ⟨xj,xm,xg,xs,xk,xa⟩ (sl (qA,qn,qc))=.agg #[.string X,.string M,.slice qA qn qc,.int .i64 xs,.bool xk,.bool xa]:=(by unfold e9;rw[e2]);rw[a1,a2] at hcal;clear e1 e2 a1 a2 hX hM hc1 hc2 hx hx2 hm1 hm2 BWW hb1 hb2;(go_wp2_with fail);refine ew ?_
   repeat (go_big_quiet_step ((go_at_call 82;exact Sy.Calls.bel_of (hcal _))))
   refine wpQuiet_nil ?_;intro w5 hw';have hb5:Below wr.heap.size wr w5:=(by obtain⟨v,rfl⟩:=hw';exact v.h);have B5:Hid (Below w.heap.size w w5):=BW.out.trans (hb5.mono BW.out.size);clear hw' hb5 hcal hP hQ q0 r0 q1 r1 q2 r2 q3 r3 q4 r4 q5 r5;(go_wp2_with fail);go_roundw;case rel=>exact⟨k+1,by omega,by go_num,B5⟩
   case measure=>simp[intOf];omega
  ·have hkz:¬ (k:Int)<(n:Int):=(by omega);(go_wp2_with fail);go_ret;exact⟨rfl,BW.out⟩
theorem oY (v u:Value) (l l2:List (bj × bB)) (w:World) (h1:ReadI w.heap.size w v l) (h2:ReadI w.heap.size w u l2) (hm:l.map (·.1)=l2.map (·.1)) (hl:l.length<=1000000) (hg:∀ p∈l,p.1.groups.length<=140737488355328):
 Calls Tryz.prog 46 #[v,u] w fun e w'=>e=.returned (.bool true)/\Below w.heap.size w w':=by
 have H:=aa (rM v u l l2 w h1 h2 hm hl hg);clear h1 h2 hm hl hg;go_enter Tryz.func46,Tryz.ntmps46;go_wp2_with fail
 refine H.out.mono ?_;rintro e w1 ⟨rfl,b1⟩;go_wp2_with fail
 go_ret;exact⟨rfl,b1⟩
end
end Go.Proofs.YtbgaglcgennhiaaGreatDoor


import Derived.Test.YtbgaglcgennhiaaGreatDoorQ16
import Derived.Test.YtbgaglcgennhiaaGreatDoorQ19
set_option maxHeartbeats 8000000
namespace Go.Proofs.YtbgaglcgennhiaaGreatDoor
open Go.RowKit Rg Tx
def DGoes (L:List UInt8) (f k:Nat):Prop:=f<=k/\k<=L.length/\(∀ c∈(L.drop f).take (k-f),c≠46)/\(Jd.pcs 46 L).any Jd.badB=(Jd.pcs 46 (L.drop f)).any Jd.badB
theorem DGoes.start (L:List UInt8):DGoes L 0 0:=⟨aq _,bI _,by simp,rfl⟩
theorem vy {L:List UInt8} {f k:Nat} (hf:f<=k) (hk:k<L.length):(L.drop f).take (k+1-f)=(L.drop f).take (k-f)++[L[k]]:=by rw[show k+1-f=(k-f)+1 by omega,List.take_add_one,List.getElem?_drop,show f+(k-f)=k by omega,aQ hk];rfl
theorem DGoes.next {L:List UInt8} {f k:Nat} (h:DGoes L f k) (hk:k<L.length) (hc:L[k]≠46):DGoes L f (k+1):=by
 obtain⟨h1,h2,h3,h4⟩:=h;refine⟨by omega,by omega,fun c hm=>?_,h4⟩;rw[vy h1 hk] at hm;rcases List.mem_append.1 hm with hm|hm
 ·exact h3 c hm
 ·rw[List.mem_singleton.1 hm];exact hc
theorem DGoes.dot {L:List UInt8} {f k:Nat} (h:DGoes L f k) (hk:k<L.length) (hc:L[k]=46):(Jd.pcs 46 L).any Jd.badB=(Jd.badB ((L.drop f).take (k-f))||(Jd.pcs 46 (L.drop (k+1))).any Jd.badB):=by
 obtain⟨h1,h2,h3,h4⟩:=h;have e:L.drop f=(L.drop f).take (k-f)++46::L.drop (k+1):=by
  conv=>lhs;rw[<-List.take_append_drop (k-f) (L.drop f)]
  rw[List.drop_drop,show f+(k-f)=k by omega,List.drop_eq_getElem_cons hk,hc]
 rw[h4]
 conv=>lhs;rw[e]
 rw[Jd.pcs_some (fun hm=>h3 46 hm rfl),List.any_cons]
theorem DGoes.skip {L:List UInt8} {f k:Nat} (h:DGoes L f k) (hk:k<L.length) (hc:L[k]=46) (hb:Jd.badB ((L.drop f).take (k-f))=false):DGoes L (k+1) (k+1):=by refine⟨aq _,hk,by simp,?_⟩;rw[h.dot hk hc,hb];rfl
theorem DGoes.last {L:List UInt8} {f:Nat} (h:DGoes L f L.length):(Jd.pcs 46 L).any Jd.badB=Jd.badB ((L.drop f).take (L.length-f)):=by obtain⟨h1,h2,h3,h4⟩:=h;have e:(L.drop f).take (L.length-f)=L.drop f:=List.take_of_length_le (by rw[List.length_drop];omega);rw[e] at h3 ⊢;rw[h4,Jd.pcs_none (fun hm=>h3 46 hm rfl)];simp
theorem fX {x:ByteArray} {m:Nat} (h:x.size=m+1):Jd.badB x.data.toList=((x[0]'(by omega))==45||(x[m]'(by omega))==45):=by
 have hl:x.data.toList.length=m+1:=by rw[<-bS];exact h
 unfold Jd.badB;cases e:x.data.toList with
 |nil=>rw[e] at hl;simp at hl
 | cons a t=>have e0:(x[0]'(by omega))=a:=(by show x.data.toList[0]'(by omega)=a;simp[e]);have e1:(x[m]'(by omega))=(a::t).getLastD 0:=(by show x.data.toList[m]'(by omega)=_;rw[List.getLastD_eq_getLast?,List.getLast?_eq_getElem?];rw[e] at hl;simp only[e,hl];simp[aQ (show m<(a::t).length by omega)]);rw[e0,e1];simp
theorem dw (a c:UInt8):((a.toNat:Int)==(c.toNat:Int))=(a==c):=by rw[Bool.eq_iff_iff];simp only[beq_iff_eq];exact⟨fun h=>UInt8.toNat_inj.1 (by omega),fun h=>by rw[h]⟩
theorem gl {m:Nat} {a:List UInt8} (h:a=[]\/m<a.length):Jd.sizedL m (a,0)=([],14):=by unfold Jd.sizedL;rw[if_pos rfl,if_pos h]
theorem pE (s:ByteArray) (w:World) (hs:s.size<=10000000):
 Calls Tryz.prog 37 #[.string s] w fun e w'=>e=.returned (bY (Jd.domL s.data.toList))/\Below w.heap.size w w':=by
 have HH:=aa (ut s w (by omega));have hl:=Pr.prepL_len 2 s.data.toList;have hsz:=bS s;obtain⟨r,hr⟩:=ac (Pr.prepL 2 s.data.toList);have hH:Jd.hostL s.data.toList=(Jd.trimD r.1,r.2):=by unfold Jd.hostL;rw[hr]
 have hD:Jd.domL s.data.toList=Jd.pieced (Jd.sizedL 100 (Jd.trimD r.1,r.2)):=by unfold Jd.domL;rw[hH]
 rw[gr,hr] at HH;rw[hr] at hl;rw[hD];clear hr hH hD;by_cases h0:r.2=0
 ·obtain⟨a,ha⟩:∃ a:ByteArray,aY r.1=a:=⟨_,rfl⟩;have hV:bY r=.tuple #[.string a,.int .i64 0]:=(by rw[cF (show r=(r.1,0) from Prod.ext rfl h0),<-ha];rfl);rw[hV] at HH;have hd:a.data.toList=r.1:=(by rw[<-ha]);have hasz:a.size<=80000000:=(by rw[bS,hd];omega);rw[<-hd,h0];clear hV ha h0 hd hl hsz hs;obtain⟨L,htr⟩:=ac (Jd.trimD a.data.toList);rw[htr];obtain⟨T,hTd0⟩:=ac ((Jd.pcs 46 L).any Jd.badB);have hTd:=aa hTd0;clear hTd0;by_cases hz:a.size=0
  ·have hae:a=⟨#[]⟩:=bm (List.eq_nil_of_length_eq_zero (by rw[<-bS];exact hz));have hL0:L.length=0:=(by rw[<-htr,hae];rfl);have hq:L=[]\/100<L.length:=(by first|exact .inl (List.eq_nil_of_length_eq_zero (by omega))|exact .inr (by omega));have HF:Hid (bY (Jd.pieced (Jd.sizedL 100 (L,0)))=.tuple #[.string ⟨#[]⟩,.int .i64 14]):=(by unfold Hid;rw[gl hq];rfl);clear hq;subst hae;clear htr hL0;go_enter Tryz.func37,Tryz.ntmps37;(go_wp2_with fail);refine HH.out.mono ?_;rintro e w1 ⟨rfl,b1⟩;have B1:=aa b1;clear b1;(go_wp2_with fail);go_ret2
   exact⟨by rw[HF.out];rfl,B1.out⟩
  ·obtain⟨m,hm⟩:∃ m,a.size=m+1:=⟨a.size-1,by omega⟩;have hne0:a.toList.isEmpty=false:=bf (fun e=>by have h:=bS a;rw[e] at h;have h2:a.size=0:=h;omega);have hlast0:a.data.toList.getLast?=some (a[m]'(by omega)):=(by have hl0:a.data.toList.length=m+1:=(by rw[<-bS];exact hm);rw[List.getLast?_eq_getElem?,hl0];exact aQ (show m<a.data.toList.length by omega));by_cases hdot0:(a[m]'(by omega))=46
   ·have hb0:(((a[m]'(by omega)).toNat:Int)==46)=true:=(by rw[hdot0];rfl);have hLe:L=a.data.toList.take m:=(by rw[<-htr];unfold Jd.trimD;rw[if_pos (by rw[hlast0,hdot0]),List.dropLast_eq_take,<-bS,hm];rfl);have hL1:(a.extract 0 m).data.toList=L:=(by rw[fl,hLe];simp);have hDm:(a.extract 0 m).size=m:=(by rw[bS,hL1,hLe,dL,<-bS];omega);have hLm:L.length=m:=(by rw[<-hL1,<-bS];exact hDm);obtain⟨D,hD⟩:=ac (a.extract 0 m);rw[hD] at hL1 hDm;have hL:=aa hL1;clear hL1 hLe hlast0 hdot0;by_cases hm0:m<1\/100<m
    ·rcases hm0 with hm0|hm0
     ·obtain rfl:m=0:=(by omega);have hq:L=[]\/100<L.length:=(by first|exact .inl (List.eq_nil_of_length_eq_zero (by omega))|exact .inr (by omega));have HF:Hid (bY (Jd.pieced (Jd.sizedL 100 (L,0)))=.tuple #[.string ⟨#[]⟩,.int .i64 14]):=(by unfold Hid;rw[gl hq];rfl);clear hq;clear htr hLm;go_enter Tryz.func37,Tryz.ntmps37;(go_wp2_with fail);refine HH.out.mono ?_;rintro e w1 ⟨rfl,b1⟩;have B1:=aa b1;clear b1;(go_wp2_with fail);go_ret2
      exact⟨by rw[HF.out];rfl,B1.out⟩
     · -- too long
      have hq:L=[]\/100<L.length:=(by first|exact .inl (List.eq_nil_of_length_eq_zero (by omega))|exact .inr (by omega));have HF:Hid (bY (Jd.pieced (Jd.sizedL 100 (L,0)))=.tuple #[.string ⟨#[]⟩,.int .i64 14]):=(by unfold Hid;rw[gl hq];rfl);clear hq;clear htr hLm;go_enter Tryz.func37,Tryz.ntmps37;(go_wp2_with fail);refine HH.out.mono ?_;rintro e w1 ⟨rfl,b1⟩;have B1:=aa b1;clear b1;(go_wp2_with fail);go_ret2
      exact⟨by rw[HF.out];rfl,B1.out⟩
    ·have hm1:1<=m:=(by omega);have hm2:m<=100:=(by omega);clear hm0 hLm;obtain⟨n,hn⟩:∃ n,n=m:=⟨_,rfl⟩;subst hn;have hDn:=hDm;have hn1:=hm1;have hn2:=hm2;clear hDm hm1 hm2;have hLn:Hid (L.length=n):=(by unfold Hid;rw[<-hL.out,<-bS];exact hDn);have HT:Hid (bY (Jd.pieced (Jd.sizedL 100 (L,0)))=if T=true then .tuple #[.string ⟨#[]⟩,.int .i64 14] else .tuple #[.string D,.int .i64 0]):=by
      unfold Hid;rw[Jd.sized_of (fun e=>by have h:=hLn.out;rw[e] at h;have h2:0=n:=h;omega) (by have:=hLn.out;omega)];unfold Jd.pieced;rw[if_pos rfl,hTd.out];cases T with
      |true=>rfl
      | false=>rw[if_neg (by simp),if_neg (by simp),cF rfl,<-hL.out];rfl
     clear htr;go_enter Tryz.func37,Tryz.ntmps37;(go_wp2_with fail);refine HH.out.mono ?_;rintro e w1 ⟨rfl,b1⟩;have B1:=aa b1;clear b1;go_wp2_with fail
     go_loop [6,7] (fun fv iv=>∃ (f k:Nat),fv=.int .i64 f/\iv=.int .i64 k/\f<=k/\k<=n+1/\Hid ((k<=n->DGoes L f k)/\(k=n+1->T=false))) (fun _ iv=>n+1-(intOf iv).toNat)
     case atStart=>exact⟨0,0,rfl,rfl,aq _,bI _,⟨fun _=>DGoes.start L,fun e=>by omega⟩⟩
     case round=>
      obtain⟨f,k,rfl,rfl,hfk0,hk,hno⟩:=hrel;by_cases hlt:k<n
      ·have hdg:=aa (hno.out.1 (by omega));have hkL:k<L.length:=(by rw[hLn.out];exact hlt);have hgetE:L[k]=D[k]'(by omega):=(by have e:=hL.out;subst e;rfl);by_cases hc:(D[k]'(by omega))=46
       ·have hb:(((D[k]'(by omega)).toNat:Int)==46)=true:=(by rw[hc];rfl);have hb2:(((D[k]'(by omega)).toNat:Int) != 46)=false:=(by rw[hc];rfl);have hskip:=aa (hdg.out.skip hkL (hgetE.trans hc));have hdot:=hdg.out.dot hkL (hgetE.trans hc);rw[hTd.out] at hdot;have hxl:(D.extract f k).data.toList=(L.drop f).take (k-f):=(by rw[fl,hL.out]);have hxs:(D.extract f k).size=k-f:=(by rw[bS,hxl,dL,List.length_drop];have:=hLn.out;omega);have hT:=hdot;rw[<-hxl] at hT;obtain⟨X,hX⟩:=ac (D.extract f k);rw[hX] at hxs hT hxl;have hpb0:Jd.badB ((L.drop f).take (k-f))=Jd.badB X.data.toList:=(by rw[hxl]);by_cases hfk:f=k
        ·have hxe:X=⟨#[]⟩:=bm (List.eq_nil_of_length_eq_zero (by rw[<-bS];omega));have hTT:Hid (T=true):=(by unfold Hid;rw[hT,hxe];rfl);have HF:=aa ((HT.out).trans (if_pos hTT.out));subst hxe;clear hT hxl hxs hpb0;(go_wp2_with fail);go_ret2
         exact⟨by rw[HF.out];rfl,B1.out⟩
        ·obtain⟨p,hp⟩:∃ p,X.size=p+1:=⟨k-f-1,by omega⟩;have hp2:p<=100:=(by omega);clear hxs;have hne:X.toList.isEmpty=false:=bf (fun e=>by have h:=bS X;rw[e] at h;have h2:X.size=0:=h;omega);have hbb:=fX hp;obtain⟨v0,hv0⟩:=ac (((X[0]'(by omega))==45));obtain⟨v1,hv1⟩:=ac (((X[p]'(by omega))==45));have q0:(((X[0]'(by omega)).toNat:Int)==45)=v0:=(by rw[<-hv0];exact dw _ 45);have q1:(((X[p]'(by omega)).toNat:Int)==45)=v1:=(by rw[<-hv1];exact dw _ 45);rw[hv0,hv1] at hbb;rw[hbb] at hT hpb0;have hpb:=aa hpb0;clear hpb0;clear hv0 hv1 hbb hxl;cases v0 with
         | true=>
           have HF:=aa ((HT.out).trans (if_pos (show T=true from by rw[hT];rfl)));clear hT;(go_wp2_with fail);go_ret2
           exact⟨by rw[HF.out];rfl,B1.out⟩
         | false=>
           cases v1 with
           | true=>
             have HF:=aa ((HT.out).trans (if_pos (show T=true from by rw[hT];rfl)));clear hT;(go_wp2_with fail);go_ret2
             exact⟨by rw[HF.out];rfl,B1.out⟩
           | false=>
             have hnx:Hid ((k+1<=n->DGoes L (k+1) (k+1))/\(k+1=n+1->T=false)):=(by refine⟨fun _=>hskip.out (by rw[hpb.out];rfl),fun e=>by omega⟩);clear hT;(go_wp2_with fail);go_round
             case rel=>exact⟨k+1,k+1,by go_num,by go_num,by omega,by omega,hnx⟩
             case measure=>simp[intOf];omega
       ·have hb:(((D[k]'(by omega)).toNat:Int)==46)=false:=(by rw[show (46:Int)=((46:UInt8).toNat:Int) from rfl,dw];simpa using hc);have hb2:(((D[k]'(by omega)).toNat:Int) != 46)=true:=(by rw[bne,hb];rfl);have hnx:Hid ((k+1<=n->DGoes L f (k+1))/\(k+1=n+1->T=false)):=⟨fun _=>hdg.out.next hkL (fun e=>hc (hgetE.symm.trans e)),fun e=>by omega⟩;clear hgetE hc hkL;(go_wp2_with fail);go_round
        case rel=>exact⟨f,k+1,by go_num,by go_num,by omega,by omega,hnx⟩
        case measure=>simp[intOf];omega
      ·by_cases hkn:k<=n
       ·have hdg:=aa (hno.out.1 hkn);have hge:n<=k:=(by omega);have hke:=aa (show n=k by omega);have hlast:=(show DGoes L f L.length from by rw[hLn.out,hke.out];exact hdg.out).last;rw[hLn.out,hke.out,hTd.out] at hlast;have hxl:(D.extract f k).data.toList=(L.drop f).take (k-f):=(by rw[fl,hL.out]);have hxs:(D.extract f k).size=k-f:=(by rw[bS,hxl,dL,List.length_drop];have:=hLn.out;omega);have hT:=aa (hlast);rw[<-hxl] at hT;obtain⟨X,hX⟩:=ac (D.extract f k);rw[hX] at hxs hT hxl;by_cases hfk:f=k
        ·have hxe:X=⟨#[]⟩:=bm (List.eq_nil_of_length_eq_zero (by rw[<-bS];omega));have hTT:Hid (T=true):=(by unfold Hid;rw[hT.out,hxe];rfl);have HF:=aa ((HT.out).trans (if_pos hTT.out));subst hxe;clear hT hxl hxs;(go_wp2_with fail);go_ret2
         exact⟨by rw[HF.out];rfl,B1.out⟩
        ·obtain⟨p,hp⟩:∃ p,X.size=p+1:=⟨k-f-1,by omega⟩;have hp2:p<=100:=(by omega);clear hxs;have hne:X.toList.isEmpty=false:=bf (fun e=>by have h:=bS X;rw[e] at h;have h2:X.size=0:=h;omega);have hbb:=fX hp;obtain⟨v0,hv0⟩:=ac (((X[0]'(by omega))==45));obtain⟨v1,hv1⟩:=ac (((X[p]'(by omega))==45));have q0:(((X[0]'(by omega)).toNat:Int)==45)=v0:=(by rw[<-hv0];exact dw _ 45);have q1:(((X[p]'(by omega)).toNat:Int)==45)=v1:=(by rw[<-hv1];exact dw _ 45);rw[hv0,hv1] at hbb;rw[hbb] at hT;clear hv0 hv1 hbb hxl;cases v0 with
         | true=>
           have HF:=aa ((HT.out).trans (if_pos (show T=true from hT.out)));clear hT;(go_wp2_with fail);go_ret2
           exact⟨by rw[HF.out];rfl,B1.out⟩
         | false=>
           cases v1 with
           | true=>
             have HF:=aa ((HT.out).trans (if_pos (show T=true from hT.out)));clear hT;(go_wp2_with fail);go_ret2
             exact⟨by rw[HF.out];rfl,B1.out⟩
           | false=>
             have hnx:Hid ((k+1<=n->DGoes L (k+1) (k+1))/\(k+1=n+1->T=false)):=⟨fun e=>by omega,fun _=>hT.out⟩;clear hT;(go_wp2_with fail);go_round
             case rel=>exact⟨k+1,k+1,by go_num,by go_num,by omega,by omega,hnx⟩
             case measure=>simp[intOf];omega
       ·have hkn1:n+1<=k:=(by omega);have HF:=aa ((HT.out).trans (if_neg (by rw[hno.out.2 (by omega)];simp)));clear hkn;(go_wp2_with fail);go_ret2
        exact⟨by rw[HF.out];rfl,B1.out⟩
   ·have hb0:(((a[m]'(by omega)).toNat:Int)==46)=false:=(by rw[show (46:Int)=((46:UInt8).toNat:Int) from rfl,dw];simpa using hdot0);have hLe:L=a.data.toList:=(by rw[<-htr];unfold Jd.trimD;rw[if_neg (by rw[hlast0];simpa using hdot0)]);have hLm:L.length=m+1:=(by rw[hLe,<-bS];exact hm);obtain⟨D,hD⟩:=ac a;have hL1:D.data.toList=L:=(by rw[hLe,hD]);have hL:=aa hL1;clear hL1 hLe hlast0 hdot0;by_cases hm0:100<m+1
    · -- too long
     have hq:L=[]\/100<L.length:=(by first|exact .inl (List.eq_nil_of_length_eq_zero (by omega))|exact .inr (by omega));have HF:Hid (bY (Jd.pieced (Jd.sizedL 100 (L,0)))=.tuple #[.string ⟨#[]⟩,.int .i64 14]):=(by unfold Hid;rw[gl hq];rfl);clear hq;clear htr hLm hD;go_enter Tryz.func37,Tryz.ntmps37;(go_wp2_with fail);refine HH.out.mono ?_;rintro e w1 ⟨rfl,b1⟩;have B1:=aa b1;clear b1;(go_wp2_with fail);go_ret2
     exact⟨by rw[HF.out];rfl,B1.out⟩
    ·subst hD;have hDn:=hm;have hn2:m+1<=100:=(by omega);clear hm0 hLm;have hLn:Hid (L.length=(m+1)):=(by unfold Hid;rw[<-hL.out,<-bS];exact hDn);have HT:Hid (bY (Jd.pieced (Jd.sizedL 100 (L,0)))=if T=true then .tuple #[.string ⟨#[]⟩,.int .i64 14] else .tuple #[.string a,.int .i64 0]):=by
      unfold Hid;rw[Jd.sized_of (fun e=>by have h:=hLn.out;rw[e] at h;have h2:0=(m+1):=h;omega) (by have:=hLn.out;omega)];unfold Jd.pieced;rw[if_pos rfl,hTd.out];cases T with
      |true=>rfl
      | false=>rw[if_neg (by simp),if_neg (by simp),cF rfl,<-hL.out];rfl
     clear htr;go_enter Tryz.func37,Tryz.ntmps37;(go_wp2_with fail);refine HH.out.mono ?_;rintro e w1 ⟨rfl,b1⟩;have B1:=aa b1;clear b1;go_wp2_with fail
     go_loop [6,7] (fun fv iv=>∃ (f k:Nat),fv=.int .i64 f/\iv=.int .i64 k/\f<=k/\k<=(m+1)+1/\Hid ((k<=(m+1)->DGoes L f k)/\(k=(m+1)+1->T=false))) (fun _ iv=>(m+1)+1-(intOf iv).toNat)
     case atStart=>exact⟨0,0,rfl,rfl,aq _,bI _,⟨fun _=>DGoes.start L,fun e=>by omega⟩⟩
     case round=>
      obtain⟨f,k,rfl,rfl,hfk0,hk,hno⟩:=hrel;by_cases hlt:k<(m+1)
      ·have hdg:=aa (hno.out.1 (by omega));have hkL:k<L.length:=(by rw[hLn.out];exact hlt);have hgetE:L[k]=a[k]'(by omega):=(by have e:=hL.out;subst e;rfl);by_cases hc:(a[k]'(by omega))=46
       ·have hb:(((a[k]'(by omega)).toNat:Int)==46)=true:=(by rw[hc];rfl);have hb2:(((a[k]'(by omega)).toNat:Int) != 46)=false:=(by rw[hc];rfl);have hskip:=aa (hdg.out.skip hkL (hgetE.trans hc));have hdot:=hdg.out.dot hkL (hgetE.trans hc);rw[hTd.out] at hdot;have hxl:(a.extract f k).data.toList=(L.drop f).take (k-f):=(by rw[fl,hL.out]);have hxs:(a.extract f k).size=k-f:=(by rw[bS,hxl,dL,List.length_drop];have:=hLn.out;omega);have hT:=hdot;rw[<-hxl] at hT;obtain⟨X,hX⟩:=ac (a.extract f k);rw[hX] at hxs hT hxl;have hpb0:Jd.badB ((L.drop f).take (k-f))=Jd.badB X.data.toList:=(by rw[hxl]);by_cases hfk:f=k
        ·have hxe:X=⟨#[]⟩:=bm (List.eq_nil_of_length_eq_zero (by rw[<-bS];omega));have hTT:Hid (T=true):=(by unfold Hid;rw[hT,hxe];rfl);have HF:=aa ((HT.out).trans (if_pos hTT.out));subst hxe;clear hT hxl hxs hpb0;(go_wp2_with fail);go_ret2
         exact⟨by rw[HF.out];rfl,B1.out⟩
        ·obtain⟨p,hp⟩:∃ p,X.size=p+1:=⟨k-f-1,by omega⟩;have hp2:p<=100:=(by omega);clear hxs;have hne:X.toList.isEmpty=false:=bf (fun e=>by have h:=bS X;rw[e] at h;have h2:X.size=0:=h;omega);have hbb:=fX hp;obtain⟨v0,hv0⟩:=ac (((X[0]'(by omega))==45));obtain⟨v1,hv1⟩:=ac (((X[p]'(by omega))==45));have q0:(((X[0]'(by omega)).toNat:Int)==45)=v0:=(by rw[<-hv0];exact dw _ 45);have q1:(((X[p]'(by omega)).toNat:Int)==45)=v1:=(by rw[<-hv1];exact dw _ 45);rw[hv0,hv1] at hbb;rw[hbb] at hT hpb0;have hpb:=aa hpb0;clear hpb0;clear hv0 hv1 hbb hxl;cases v0 with
         | true=>
           have HF:=aa ((HT.out).trans (if_pos (show T=true from by rw[hT];rfl)));clear hT;(go_wp2_with fail);go_ret2
           exact⟨by rw[HF.out];rfl,B1.out⟩
         | false=>
           cases v1 with
           | true=>
             have HF:=aa ((HT.out).trans (if_pos (show T=true from by rw[hT];rfl)));clear hT;(go_wp2_with fail);go_ret2
             exact⟨by rw[HF.out];rfl,B1.out⟩
           | false=>
             have hnx:Hid ((k+1<=(m+1)->DGoes L (k+1) (k+1))/\(k+1=(m+1)+1->T=false)):=(by refine⟨fun _=>hskip.out (by rw[hpb.out];rfl),fun e=>by omega⟩);clear hT;(go_wp2_with fail);go_round
             case rel=>exact⟨k+1,k+1,by go_num,by go_num,by omega,by omega,hnx⟩
             case measure=>simp[intOf];omega
       ·have hb:(((a[k]'(by omega)).toNat:Int)==46)=false:=(by rw[show (46:Int)=((46:UInt8).toNat:Int) from rfl,dw];simpa using hc);have hb2:(((a[k]'(by omega)).toNat:Int) != 46)=true:=(by rw[bne,hb];rfl);have hnx:Hid ((k+1<=(m+1)->DGoes L f (k+1))/\(k+1=(m+1)+1->T=false)):=⟨fun _=>hdg.out.next hkL (fun e=>hc (hgetE.symm.trans e)),fun e=>by omega⟩;clear hgetE hc hkL;(go_wp2_with fail);go_round
        case rel=>exact⟨f,k+1,by go_num,by go_num,by omega,by omega,hnx⟩
        case measure=>simp[intOf];omega
      ·by_cases hkn:k<=(m+1)
       ·have hdg:=aa (hno.out.1 hkn);have hge:(m+1)<=k:=(by omega);have hke:=aa (show (m+1)=k by omega);have hlast:=(show DGoes L f L.length from by rw[hLn.out,hke.out];exact hdg.out).last;rw[hLn.out,hke.out,hTd.out] at hlast;have hxl:(a.extract f k).data.toList=(L.drop f).take (k-f):=(by rw[fl,hL.out]);have hxs:(a.extract f k).size=k-f:=(by rw[bS,hxl,dL,List.length_drop];have:=hLn.out;omega);have hT:=aa (hlast);rw[<-hxl] at hT;obtain⟨X,hX⟩:=ac (a.extract f k);rw[hX] at hxs hT hxl;by_cases hfk:f=k
        ·have hxe:X=⟨#[]⟩:=bm (List.eq_nil_of_length_eq_zero (by rw[<-bS];omega));have hTT:Hid (T=true):=(by unfold Hid;rw[hT.out,hxe];rfl);have HF:=aa ((HT.out).trans (if_pos hTT.out));subst hxe;clear hT hxl hxs;(go_wp2_with fail);go_ret2
         exact⟨by rw[HF.out];rfl,B1.out⟩
        ·obtain⟨p,hp⟩:∃ p,X.size=p+1:=⟨k-f-1,by omega⟩;have hp2:p<=100:=(by omega);clear hxs;have hne:X.toList.isEmpty=false:=bf (fun e=>by have h:=bS X;rw[e] at h;have h2:X.size=0:=h;omega);have hbb:=fX hp;obtain⟨v0,hv0⟩:=ac (((X[0]'(by omega))==45));obtain⟨v1,hv1⟩:=ac (((X[p]'(by omega))==45));have q0:(((X[0]'(by omega)).toNat:Int)==45)=v0:=(by rw[<-hv0];exact dw _ 45);have q1:(((X[p]'(by omega)).toNat:Int)==45)=v1:=(by rw[<-hv1];exact dw _ 45);rw[hv0,hv1] at hbb;rw[hbb] at hT;clear hv0 hv1 hbb hxl;cases v0 with
         | true=>
           have HF:=aa ((HT.out).trans (if_pos (show T=true from hT.out)));clear hT;(go_wp2_with fail);go_ret2
           exact⟨by rw[HF.out];rfl,B1.out⟩
         | false=>
           cases v1 with
           | true=>
             have HF:=aa ((HT.out).trans (if_pos (show T=true from hT.out)));clear hT;(go_wp2_with fail);go_ret2
             exact⟨by rw[HF.out];rfl,B1.out⟩
           | false=>
             have hnx:Hid ((k+1<=(m+1)->DGoes L (k+1) (k+1))/\(k+1=(m+1)+1->T=false)):=⟨fun e=>by omega,fun _=>hT.out⟩;clear hT;(go_wp2_with fail);go_round
             case rel=>exact⟨k+1,k+1,by go_num,by go_num,by omega,by omega,hnx⟩
             case measure=>simp[intOf];omega
       ·have hkn1:(m+1)+1<=k:=(by omega);have HF:=aa ((HT.out).trans (if_neg (by rw[hno.out.2 (by omega)];simp)));clear hkn;(go_wp2_with fail);go_ret2
        exact⟨by rw[HF.out];rfl,B1.out⟩
 ·have e1:Jd.sizedL 100 (Jd.trimD r.1,r.2)=([],r.2):=(by unfold Jd.sizedL;rw[if_neg h0]);have e2:Jd.pieced ([],r.2)=([],r.2):=(by unfold Jd.pieced;rw[if_neg h0]);rw[e1,e2,cF rfl];obtain⟨a,ha⟩:∃ a:ByteArray,⟨r.1.toArray⟩=a:=⟨_,rfl⟩;obtain⟨z,hz⟩:∃ z:Int,((r.2:Nat):Int)=z:=⟨_,rfl⟩;have hV:bY r=.tuple #[.string a,.int .i64 z]:=(by unfold bY;rw[ha,hz]);rw[hV] at HH;rw[hz];have hn0:z≠0:=(by omega);have hnB:(z != 0)=true:=(by simpa using hn0);clear hV e1 e2 h0 ha hz hl hsz hs;go_enter Tryz.func37,Tryz.ntmps37;(go_wp2_with fail);refine HH.out.mono ?_;rintro e w1 ⟨rfl,b1⟩;have B1:=aa b1;clear b1;(go_wp2_with fail);go_ret2
  exact⟨rfl,B1.out⟩
-- DOMAIN ENDS
end Go.Proofs.YtbgaglcgennhiaaGreatDoor

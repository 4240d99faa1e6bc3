import Derived.Test.YtbgaglcgennhiaaGreatDoorQ04
set_option maxHeartbeats 16000000
set_option maxRecDepth 100000
namespace Go.Proofs.YtbgaglcgennhiaaGreatDoor
open Go.RowKit Go.Lib Go.Sort Sy
variable {α:Type} [Inhabited α] {enc:α->List Value} {k:Nat} {lt:α->α->Bool} {len g:Nat} {lb:Array Value} {sf:Nat} {sb:Array Value}
theorem mB (hW:Weak lt) (B:Nat):∀ N,vM enc k lt len g lb sf sb B N
 |0=>fun _ _ _ _ _ _ _ _ _ h=>absurd h (Nat.not_lt_zero _)
 | N+1=>by
   intro X A C Y a m b W hC hN hl hlen ha hm hb hA hC0 hUA hUC hS;by_cases h1:A.length=1
   ·obtain⟨x,rfl⟩:=List.length_eq_one_iff.1 h1;exact se hW X C Y x a m b W B hC hl hlen ha (by simpa using hm) hb hUC hS
   ·by_cases h2:C.length=1
    ·obtain⟨x,rfl⟩:=List.length_eq_one_iff.1 h2;exact p9 hW X A Y x a m b W B hC hl hlen ha hm (by omega) (by simpa using hb) hUA hS
    ·exact vd hW X A C Y a m b N W B hC (mB hW B N) (by omega) hl hlen ha hm hb (by omega) (by omega) hUA hUC hS
theorem iJ (hW:Weak lt) (L:List α) (n:Nat) (W:World) (B:Nat) (hC:LS enc k lt n g lb sf sb W B) (hl:L.length=n) (hn:n<=400000000) (hS:St enc k W B L.toArray W):
 Calls Tryz.prog 105 #[.agg #[.func (.func g) #[] lb,.func (.func sf) #[] sb],.int .i64 n] W fun e w'=>e=.returned (.tuple #[])/\St enc k W B (af lt L).toArray w':=by
 have HL:=aa hl;have HW:=aa hW;have HINS:Hid (∀ (X S Y:List α) (a b:Nat) (W:World),LS enc k lt n g lb sf sb W B->(X++S++Y).length=n->X.length=a->a+S.length=b->St enc k W B (X++S++Y).toArray W ->
  Calls Tryz.prog 147 #[.agg #[.func (.func g) #[] lb,.func (.func sf) #[] sb],.int .i64 a,.int .i64 b] W fun e w'=>e=.returned (.tuple #[])/\St enc k W B (X++af lt S++Y).toArray w'):=
  fun X S Y a b W h0 h1 h2 h3 h4=>jU hW X S Y a b W B h0 h1 (by omega) h2 h3 h4
 have HSYM:Hid (∀ (X A C Y:List α) (a m b:Nat) (W:World),LS enc k lt n g lb sf sb W B->(X++A++C++Y).length=n->X.length=a->a+A.length=m->m+C.length=b->0<A.length->0<C.length->Up lt A->Up lt C->St enc k W B (X++A++C++Y).toArray W ->
  Calls Tryz.prog 148 #[.agg #[.func (.func g) #[] lb,.func (.func sf) #[] sb],.int .i64 a,.int .i64 m,.int .i64 b] W fun e w'=>e=.returned (.tuple #[])/\St enc k W B (X++aj lt A C++Y).toArray w'):=
  fun X A C Y a m b W h0 h1 h2 h3 h4 h5 h6 h7 h8 h9=>mB hW B (b-a+1) X A C Y a m b W h0 (by omega) h1 (by omega) h2 h3 h4 h5 h6 h7 h8 h9
 have S1:=hS.alloc (.cells #[.func (.func g) #[] lb,.func (.func sf) #[] sb] 128);have HC:=aa (hC.up S1);have HX:=aa (lI (α:=α) (enc:=enc) (k:=k) (W:=W) (B:=B) g lb sf sb 128 hS.ltW);have HT:=aa (fun (D:Array α) (w:World) (h:St enc k (W.alloc (.cells #[.func (.func g) #[] lb,.func (.func sf) #[] sb] 128)) B D w)=>S1.trans h);have S2:=S1.base;have eg:=hC.eg;obtain⟨W1,hW1⟩:=ac (W.alloc (.cells #[.func (.func g) #[] lb,.func (.func sf) #[] sb] 128));have HS:Hid (St enc k W1 B L.toArray (W.alloc (.cells #[.func (.func g) #[] lb,.func (.func sf) #[] sb] 128))):=by unfold Hid;rw[<-hW1];exact S2
 rw[hW1] at HC HX HT;clear S1 S2 hW1 hC hS;clear hl hW;go_enter Tryz.func105,Tryz.ntmps105;go_wp2_with fail
 go_loopw [5,6] (fun av bv wr=>∃ (a b j:Nat) (X R:List α),av=.int .i64 (a:Nat)/\bv=.int .i64 (b:Nat)/\b=a+20/\a<=n/\Hid (X.length=a)/\Hid (Ahead lt 20 L X R j)/\Hid (St enc k W1 B (X++R).toArray wr)) (fun av _ _=>n+20-(intOf av).toNat)
 case atStart=>exact⟨0,20,0,[],L,rfl,rfl,rfl,bI _,rfl,Ahead.start _ _,HS.out⟩
 case round=>
  clear HS;obtain⟨a,b,j,X,R,rfl,rfl,hb,han,HX2,HA,SD⟩:=hrel;have hRl:R.length=n-a:=by have:=HA.out.sum;have h1:=HL.out;have h2:=HX2.out;omega
  have HRL:=aa hRl;have c0:=(HX.out _ _ SD.out).1;have c1:=(HX.out _ _ SD.out).2;by_cases hbn:b<=n
  ·have hbz:(b:Int)<=(n:Int):=(by omega);obtain⟨b2,hb2⟩:=ac (b+20);have w1:IntKind.i64.wrap ((b:Int)+20)=(b2:Int):=(by rw[aO];omega);have HQ:=aa (HINS.out X (R.take 20) (R.drop 20) a b wr (HC.out.up SD.out) (by rw[List.append_assoc,List.take_append_drop,de,hRl,HX2.out];omega) HX2.out (by rw[dL];omega) (by rw[List.append_assoc,List.take_append_drop];exact SD.out.base));have HA2:=aa (HA.out.step (by omega));have HX3:Hid ((X++af lt (R.take 20)).length=b):=(by unfold Hid;rw[de,aI,dL,HX2.out];omega);have HB2:Hid (b2=b+20):=hb2.symm;have HAB:Hid (b=a+20):=hb;clear hRl hb hb2;(go_wp2_with fail);refine HQ.out.mono ?_;rintro E w' ⟨rfl,S2⟩;have S3:=aa (SD.out.trans S2);clear S2 HQ SD c0 c1;(go_wp2_with fail);go_roundw;case rel=>exact⟨b,b2,j+1,_,_,rfl,rfl,HB2.out,hbn,HX3,HA2,S3⟩
   case measure=>have:=HAB.out;simp[intOf];omega
  ·as_aux_lemma=>
   have hbz:¬ (b:Int)<=(n:Int):=(by omega);have HQ:=aa (HINS.out X R [] a n wr (HC.out.up SD.out) (by rw[List.append_nil,de,hRl,HX2.out];omega) HX2.out (by omega) (by rw[List.append_nil];exact SD.out.base));have HB0:Hid (Blk lt 20 L (X++af lt R++[])):=(by unfold Hid;rw[List.append_nil];exact HA.out.blk (by omega));clear hRl;(go_wp2_with fail);refine HQ.out.mono ?_;rintro E w' ⟨rfl,S2⟩;have S3:=aa (SD.out.trans S2);obtain⟨U0,hU0⟩:=ac (X++af lt R++[]);rw[hU0] at HB0 S3;clear S2 hU0 HQ HA SD HX2 HRL hb hbz hbn c0 c1;go_wp2_with fail
   go_loopw [4,5,6,7] (fun wv av bv mv wr=>∃ (w:Nat) (u1 u2 u3:Value) (U:List α),wv=.int .i64 (w:Nat)/\av=u1/\bv=u2/\mv=u3/\0<w/\w<=800000000/\Hid (Blk lt w L U)/\Hid (St enc k W1 B U.toArray wr)) (fun wv _ _ _ _=>n-(intOf wv).toNat)
   case atStart=>exact⟨20,_,_,_,U0,rfl,rfl,rfl,rfl,by omega,by omega,HB0,S3⟩
   case round=>
    clear HB0 S3;obtain⟨w,u1,u2,u3,U,rfl,rfl,rfl,rfl,hw0,hw9,HB,SU⟩:=hrel;by_cases hwn:w<n
    ·as_aux_lemma=>
     have hwz:(w:Int)<(n:Int):=(by omega);obtain⟨d,hd⟩:=ac (2*w);have w1:IntKind.i64.wrap (2*(w:Int))=(d:Int):=(by rw[aO];omega);have w1b:IntKind.i64.wrap ((w:Int)*2)=(d:Int):=(by rw[aO];omega);have HT0:=aa (Twice.start HB.out);have HD:=aa hd;clear hd;go_wp2_with fail
     go_loopw [5,6] (fun av bv wr=>∃ (a b j:Nat) (X R U:List α),av=.int .i64 (a:Nat)/\bv=.int .i64 (b:Nat)/\b=a+d/\a<=n/\Hid (X.length=a)/\Hid (Twice lt w L X R U j)/\Hid (St enc k W1 B (X++U).toArray wr)) (fun av _ _=>n+d-(intOf av).toNat)
     case atStart=>exact⟨0,d,0,[],L,U,rfl,rfl,by omega,bI _,rfl,HT0,SU⟩
     case round=>
      clear SU HT0;obtain⟨a,b,j,X,R,U,rfl,rfl,hb,han,HX2,HTW,SX⟩:=hrel;have hRl:R.length=n-a:=(by have:=HTW.out.ah.sum;have h1:=HL.out;have h2:=HX2.out;omega);have hUl:U.length=n-a:=(by have:=HTW.out.blk.len;omega);have c0:=(HX.out _ _ SX.out).1;have c1:=(HX.out _ _ SX.out).2;obtain⟨m,hm⟩:=ac (a+w);have w2:IntKind.i64.wrap ((a:Int)+(w:Int))=(m:Int):=(by rw[aO];omega);have hdw:=HD.out;by_cases hbn:b<=n
      ·have hbz:(b:Int)<=(n:Int):=(by omega);obtain⟨b2,hb2⟩:=ac (b+d);have w3:IntKind.i64.wrap ((b:Int)+(d:Int))=(b2:Int):=(by rw[aO];omega);obtain⟨A,C,Z,hU,lA,lC,uA,uC,hT2⟩:=HTW.out.step HW.out hw0 (by omega);have HT2:=aa hT2;have hx:=HX2.out;have hsum:A.length+C.length+Z.length=n-a:=(by rw[<-hUl,hU];simp;omega);have HQ:=aa (HSYM.out X A C Z a m b wr (HC.out.up SX.out) (by simp;omega) HX2.out (by omega) (by omega) (by omega) (by omega) uA uC (by have:=SX.out.base;rw[hU] at this;simpa using this));have HX3:Hid ((X++aj lt A C).length=b):=(by unfold Hid;rw[de,cS];omega);have HB2:Hid (b2=b+d):=hb2.symm;have HAB:Hid (b=a+d):=hb;clear hRl hUl hT2 hU hsum hm hdw hx lA lC hb hb2;(go_wp2_with fail);refine HQ.out.mono ?_;rintro E w' ⟨rfl,S2⟩;have S3:=aa (SX.out.trans S2);clear S2 HQ SX c0 c1;(go_wp2_with fail);go_roundw;case rel=>exact⟨b,b2,j+1,_,_,_,rfl,rfl,HB2.out,hbn,HX3,HT2,S3⟩
       case measure=>have:=HD.out;have:=HAB.out;simp[intOf];omega
      ·as_aux_lemma=>
       have hbz:¬ (b:Int)<=(n:Int):=(by omega);by_cases hmn:m<n
       ·have hmz:(m:Int)<(n:Int):=(by omega);obtain⟨A,C,hU,lA,lC,uA,uC,hB2⟩:=HTW.out.two HW.out (by omega) (by omega);rw[HD.out] at hB2;have HB2:=aa hB2;have hx:=HX2.out;have hsum:A.length+C.length=n-a:=(by rw[<-hUl,hU];simp);have HQ:=aa (HSYM.out X A C [] a m n wr (HC.out.up SX.out) (by simp;omega) HX2.out (by omega) (by omega) (by omega) (by omega) uA uC (by have:=SX.out.base;rw[hU] at this;simpa using this));clear hRl hUl hB2 hU hsum hm hdw hx lA lC;(go_wp2_with fail);refine HQ.out.mono ?_;rintro E w' ⟨rfl,S2⟩;rw[List.append_nil] at S2;have S3:=aa (SX.out.trans S2);clear S2 HQ SX c0 c1;(go_wp2_with fail);go_roundw;case rel=>exact⟨d,_,_,_,_,rfl,rfl,rfl,rfl,by have:=HD.out;omega,by have:=HD.out;omega,HB2,S3⟩
        case measure=>have:=HD.out;simp[intOf];omega
       ·have hmz:¬ (m:Int)<(n:Int):=(by omega);have hB2:=HTW.out.one hw0 (by omega);rw[HD.out] at hB2;have HB2:=aa hB2;clear hRl hUl hB2 hm hdw;(go_wp2_with fail);go_roundw;case rel=>exact⟨d,_,_,_,_,rfl,rfl,rfl,rfl,by have:=HD.out;omega,by have:=HD.out;omega,HB2,SX⟩
        case measure=>have:=HD.out;simp[intOf];omega
    ·have hwz:¬ (w:Int)<(n:Int):=(by omega);have hE:Hid (U=af lt L):=HB.out.last (by rw[HL.out];omega);(go_wp2_with fail);go_end0;exact⟨rfl,by rw[<-hE.out];exact HT.out _ _ SU.out⟩
end Go.Proofs.YtbgaglcgennhiaaGreatDoor

import Derived.Lib.DecodeN
import Derived.Lib.Strings
namespace Go.Proofs.YtbgaglcgennhiaaGreatDoor.Tx
open Go.Lib
def g7 (c:Nat):Bool:=c==9||c==10||c==13||(decide (32≤c)&&!(c==65534)&&!(c==65535))
def dc (l:List UInt8):Nat × Nat:=decodeN l.length (l.getD 0 0).toNat (l.getD 1 0).toNat (l.getD 2 0).toNat (l.getD 3 0).toNat
def nx (l:List UInt8):Nat × Nat:=if (dc l).1==65533&&(dc l).2==1||!g7 (dc l).1 then (0,0) else dc l
def vN:Nat→List UInt8→Option (List Nat)
 | 0,l=>if l=[] then some [] else none
 | f+1,l=>if l=[] then some [] else if (nx l).2=0 then none else (vN f (l.drop (nx l).2)).map ((nx l).1::·)
def ch (l:List UInt8):Option (List Nat):=vN l.length l
theorem tE (n b0 b1 b2 b3:Nat):1≤(decodeN n b0 b1 b2 b3).2:=by
 unfold decodeN
 repeat' split
 all_goals simp
theorem tU (n b0 b1 b2 b3:Nat):(decodeN n b0 b1 b2 b3).2≤4:=by
 unfold decodeN
 repeat' split
 all_goals simp
theorem ui (n b0 b1 b2 b3:Nat) (hn:1≤n):(decodeN n b0 b1 b2 b3).2≤n:=by
 unfold decodeN
 repeat' split
 all_goals (simp only;omega)
theorem rN (n b0 b1 b2 b3:Nat) (_h0:b0 < 256):(decodeN n b0 b1 b2 b3).1≤1114111:=by
 unfold decodeN
 repeat' split
 all_goals (simp only;omega)
theorem o8 (n b0 b1 b2 b3:Nat) (_h0:b0 < 256):(decodeN n b0 b1 b2 b3).1 < 55296∨57343 < (decodeN n b0 b1 b2 b3).1:=by
 unfold decodeN
 repeat' split
 all_goals (simp only;omega)
set_option maxHeartbeats 1000000 in
theorem rq (n m b0 b1 b2 b3 c1 c2 c3:Nat) (_h0:1≤n) (hm:n≤m) (h1:1 < n→c1=b1) (h2:2 < n→c2=b2) (h3:3 < n→c3=b3)
 (hok:decodeN n b0 b1 b2 b3≠(65533,1)):decodeN m b0 c1 c2 c3=decodeN n b0 b1 b2 b3:=by
 by_cases a:b0 < 128
 · simp[decodeN,a]
 by_cases b:b0 / 32=6
 · by_cases k:1 < n∧b1 / 64=2
   · have:=h1 k.1;subst this
     have km:1 < m∧c1 / 64=2:=⟨by omega,k.2⟩;simp only[decodeN,a,b,k,km,and_self,if_true,if_false]
   · exfalso;apply hok
     have e:b0 / 16≠14:=by omega
     have f:b0 / 8≠30:=by omega
     simp only[decodeN,a,b,k,e,f,and_false,false_and,if_false]
 by_cases c:b0 / 16=14
 · by_cases k:(1 < n∧b1 / 64=2)∧(2 < n∧b2 / 64=2)
   · have e1:=h1 k.1.1;subst e1
     have e2:=h2 k.2.1;subst e2;have km:(1 < m∧c1 / 64=2)∧(2 < m∧c2 / 64=2):=⟨⟨by omega,k.1.2⟩,by omega,k.2.2⟩;simp only[decodeN,a,b,c,k,km,and_self,false_and,if_true,if_false]
   · exfalso;apply hok
     have f:b0 / 8≠30:=by omega
     simp only[decodeN,a,b,k,f,and_false,false_and,if_false]
 by_cases d:b0 / 8=30
 · by_cases k:(1 < n∧b1 / 64=2)∧(2 < n∧b2 / 64=2)∧(3 < n∧b3 / 64=2)
   · have e1:=h1 k.1.1;subst e1
     have e2:=h2 k.2.1.1;subst e2;have e3:=h3 k.2.2.1;subst e3;have km:(1 < m∧c1 / 64=2)∧(2 < m∧c2 / 64=2)∧(3 < m∧c3 / 64=2):=⟨⟨by omega,k.1.2⟩,⟨by omega,k.2.1.2⟩,by omega,k.2.2.2⟩;simp only[decodeN,a,b,c,d,k,km,and_self,false_and,if_true,if_false]
   · exfalso;apply hok
     simp only[decodeN,a,b,c,k,and_false,false_and,if_false]
 · exfalso;apply hok
   simp only[decodeN,a,b,c,d,false_and,if_false]
theorem jA (l:List UInt8):1≤(dc l).2:=tE _ _ _ _ _
theorem ww (l:List UInt8):(dc l).2≤4:=tU _ _ _ _ _
theorem sx {l:List UInt8} (h:l≠[]):(dc l).2≤l.length:=ui _ _ _ _ _ (by cases l with | nil=>exact absurd rfl h | cons=>simp)
theorem fj (l:List UInt8):(dc l).1≤1114111:=rN _ _ _ _ _ (UInt8.toNat_lt _)
theorem iV (l:List UInt8):(dc l).1 < 55296∨57343 < (dc l).1:=o8 _ _ _ _ _ (UInt8.toNat_lt _)
theorem i6 (l:List UInt8):(nx l=(0,0)∧((dc l=(65533,1))∨g7 (dc l).1=false))∨(nx l=dc l∧dc l≠(65533,1)∧g7 (dc l).1=true):=by
 unfold nx
 by_cases h:((dc l).1==65533&&(dc l).2==1||!g7 (dc l).1)=true
 · rw[if_pos h]
   refine .inl ⟨rfl,?_⟩;simp only[Bool.or_eq_true,Bool.and_eq_true,beq_iff_eq,Bool.not_eq_true'] at h;rcases h with ⟨a,b⟩ | h
   · exact .inl (Prod.ext a b)
   · exact .inr h
 · rw[if_neg h]
   refine .inr ⟨rfl,?_,?_⟩
   · intro e;apply h;rw[e];simp
   · cases hk:g7 (dc l).1 with
     | true=>rfl
     | false=>exact absurd (by simp[hk]) h
theorem kZ {l:List UInt8} (h:(nx l).2≠0):nx l=dc l∧dc l≠(65533,1)∧g7 (dc l).1=true:=by
 rcases i6 l with ⟨e,_⟩ | h'
 · rw[e] at h;exact absurd rfl h
 · exact h'
theorem mJ {l:List UInt8} (h:l≠[]):(nx l).2≤l.length:=by
 rcases i6 l with ⟨e,_⟩ | ⟨e,_⟩
 · rw[e];simp
 · rw[e];exact sx h
theorem uT (l:List UInt8):(nx l).1≤1114111:=by
 rcases i6 l with ⟨e,_⟩ | ⟨e,_⟩
 · rw[e];simp
 · rw[e];exact fj l
theorem pT (f:Nat):vN f []=some []:=by cases f<;>rfl
theorem jp (f:Nat) (l:List UInt8):vN (f+1) l=if l=[] then some [] else if (nx l).2=0 then none else (vN f (l.drop (nx l).2)).map ((nx l).1::·):=rfl
theorem iW:∀ (f g:Nat) (l:List UInt8),l.length≤f→l.length≤g→vN f l=vN g l
 | f,g,[],_,_=>by rw[pT,pT]
 | 0,_,_::_,h,_=>by simp at h
 | _+1,0,_::_,_,h=>by simp at h
 | f+1,g+1,a::l,hf,hg=>by
   rw[jp,jp,if_neg (List.cons_ne_nil a l),if_neg (List.cons_ne_nil a l)]
   by_cases h:(nx (a::l)).2=0
   · rw[if_pos h,if_pos h]
   · rw[if_neg h,if_neg h,iW f g _ (by simp at hf ⊢;omega) (by simp at hg ⊢;omega)]
theorem eJ:ch []=some []:=rfl
theorem qe {l:List UInt8} (hl:l≠[]):ch l=if (nx l).2=0 then none else (ch (l.drop (nx l).2)).map ((nx l).1::·):=by
 cases l with
 | nil=>exact absurd rfl hl
 | cons a t =>
   unfold ch;rw[show (a::t).length=t.length+1 from rfl];rw[jp,if_neg (by simp)]
   by_cases h:(nx (a::t)).2=0
   · rw[if_pos h,if_pos h]
   · rw[if_neg h,if_neg h,iW t.length _ _ (by simp;omega) (Nat.le_refl _)]
theorem iO {l:List UInt8} (hl:l≠[]) (h:(nx l).2=0):ch l=none:=by rw[qe hl,if_pos h]
theorem ee {l:List UInt8} (hl:l≠[]) (h:(nx l).2≠0):ch l=(ch (l.drop (nx l).2)).map ((nx l).1::·):=by rw[qe hl,if_neg h]
theorem gj {a b:List UInt8} {i:Nat} (h:i < a.length):(a++b).getD i 0=a.getD i 0:=by
 simp[List.getD,List.getElem?_append,h]
theorem tK {a:List UInt8} (b:List UInt8) (ha:a≠[]) (h:(nx a).2≠0):nx (a++b)=nx a:=by
 obtain⟨e,h1,h2⟩:=kZ h
 have hl:1≤a.length:=by cases a with | nil=>exact absurd rfl ha | cons=>simp
 have hd:dc (a++b)=dc a:=by
  unfold dc at h1 ⊢;rw[gj (show 0 < a.length from hl)];exact rq _ _ _ _ _ _ _ _ _ hl (by simp) (fun hi=>by rw[gj hi]) (fun hi=>by rw[gj hi]) (fun hi=>by rw[gj hi]) h1
 unfold nx;rw[hd]
theorem sw:∀ (n:Nat) (a b:List UInt8) (x:List Nat),a.length≤n→ch a=some x→ch (a++b)=(ch b).map (x++·):=by
 intro n
 induction n with
 | zero =>
   intro a b x ha hx;obtain rfl:a=[]:=List.eq_nil_of_length_eq_zero (by omega);obtain rfl:[]=x:=Option.some.inj hx;show ch b=_;cases ch b<;>rfl
 | succ n ih =>
   intro a b x ha hx
   by_cases hn:a=[]
   · subst hn
     obtain rfl:[]=x:=Option.some.inj hx;show ch b=_;cases ch b<;>rfl
   · by_cases h:(nx a).2=0
     · rw[iO hn h] at hx;cases hx
     · rw[ee hn h] at hx
       have hle:=mJ hn;rw[ee (by simp[hn]) (by rw[tK b hn h];exact h),tK b hn h,List.drop_append_of_le_length hle];cases hy:ch (a.drop (nx a).2) with
       | none=>rw[hy] at hx;cases hx
       | some y =>
         rw[hy] at hx;obtain rfl:(nx a).1::y=x:=Option.some.inj hx;rw[ih (a.drop (nx a).2) b y (by rw[List.length_drop];omega) hy];cases ch b<;>rfl
theorem kL {a b:List UInt8} {x:List Nat} (h:ch a=some x):ch (a++b)=(ch b).map (x++·):=sw _ a b x (Nat.le_refl _) h
theorem fk:∀ (n:Nat) (a:List UInt8) (x:List Nat),a.length≤n→ch a=some x→x.length≤a.length:=by
 intro n
 induction n with
 | zero =>
   intro a x ha hx;obtain rfl:a=[]:=List.eq_nil_of_length_eq_zero (by omega);obtain rfl:[]=x:=Option.some.inj hx
   simp
 | succ n ih =>
   intro a x ha hx
   by_cases hn:a=[]
   · subst hn
     obtain rfl:[]=x:=Option.some.inj hx
     simp
   · by_cases h:(nx a).2=0
     · rw[iO hn h] at hx;cases hx
     · rw[ee hn h] at hx
       have hle:=mJ hn;cases hy:ch (a.drop (nx a).2) with
       | none=>rw[hy] at hx;cases hx
       | some y =>
         rw[hy] at hx;obtain rfl:(nx a).1::y=x:=Option.some.inj hx
         have:=ih _ y (by rw[List.length_drop];omega) hy
         rw[List.length_drop] at this
         simp
         omega
def low (x:List Nat):Nat:=(x.filter (fun c=>decide (c < 32))).length
theorem vL (x:List Nat):low x≤x.length:=List.length_filter_le _ _
theorem tM (x:List Nat) (c:Nat):low (x++[c])=if c < 32 then low x+1 else low x:=by
 unfold low;rw[List.filter_append]
 by_cases h:c < 32<;>simp[h]
def line (l:List UInt8) (most:Int):Bool:=match ch l with
 | some x=>(low x==0)&&decide ((x.length : Int)≤most)
 | none=>false
def valid (l:List UInt8):Bool:=(ch l).isSome
def cI (l:List UInt8):List Nat:=(ch l).getD []
theorem eV {l:List UInt8} {k:Nat} (h:k < l.length):l.drop k≠[]:=by
 intro e
 have:=congrArg List.length e
 rw[List.length_drop] at this;simp at this;omega
def At (l:List UInt8) (k:Nat) (x:List Nat):Prop:=k≤l.length∧x.length≤k∧ch l=(ch (l.drop k)).map (x++·)
theorem At.start (l:List UInt8):At l 0 []:=⟨Nat.zero_le _,Nat.le_refl _,by rw[List.drop_zero];cases ch l<;>rfl⟩
theorem At.stop {l:List UInt8} {x:List Nat} (h:At l l.length x):ch l=some x:=by
 have:=h.2.2
 rw[List.drop_length,eJ] at this;simpa using this
theorem At.next {l:List UInt8} {k:Nat} {x:List Nat} (h:At l k x) (hk:k < l.length) (hn:(nx (l.drop k)).2≠0):At l (k+(nx (l.drop k)).2) (x++[(nx (l.drop k)).1]):=by
 have hne:=eV hk;have h1:=mJ hne;rw[List.length_drop] at h1
 refine⟨by omega,by have:=h.2.1;simp;omega,?_⟩
 rw[h.2.2,ee hne hn,List.drop_drop];cases ch (List.drop (k+(nx (List.drop k l)).2) l)<;>simp
theorem At.bad {l:List UInt8} {k:Nat} {x:List Nat} (h:At l k x) (hk:k < l.length) (hn:(nx (l.drop k)).2=0):ch l=none:=by
 rw[h.2.2,iO (eV hk) hn];rfl
theorem oQ (c:Nat):g7 c=(c==9||c==10||c==13||(decide (32≤c)&&!(c==65534)&&!(c==65535))):=rfl
theorem vw (l:List UInt8):dc l=decodeN l.length (l.getD 0 0).toNat (l.getD 1 0).toNat (l.getD 2 0).toNat (l.getD 3 0).toNat:=rfl
theorem sr (l:List UInt8):nx l=if (dc l).1==65533&&(dc l).2==1||!g7 (dc l).1 then (0,0) else dc l:=rfl
theorem pW:low []=0:=rfl
theorem lg (x:List Nat):low x=(x.filter (fun c=>decide (c < 32))).length:=rfl
def bt (l:List UInt8) (j:Nat):Nat:=(l.getD j 0).toNat
theorem mr (l:List UInt8) (j:Nat):bt l j < 256:=UInt8.toNat_lt _
def acc (l:List UInt8) (M:Nat):Nat→Nat
 | 0=>bt l 0 % M
 | k+1=>acc l M k*64+bt l (k+1) % 64
def Cont (l:List UInt8) (k:Nat):Prop:=∀ j,1≤j→j < k→bt l j / 64=2
theorem Cont.one (l:List UInt8):Cont l 1:=fun j h1 h2=>by omega
theorem Cont.next {l:List UInt8} {k:Nat} (h:Cont l k) (hk:bt l k / 64=2):Cont l (k+1):=fun j h1 h2=>by
 rcases Nat.lt_or_ge j k with h3 | h3
 · exact h j h1 h3
 · rw[show j=k by omega];exact hk
def ek (l:List UInt8):Nat × Nat:=if dc l=(65533,1) then (0,0) else dc l
theorem tO (l:List UInt8):dc l=decodeN l.length (bt l 0) (bt l 1) (bt l 2) (bt l 3):=rfl
theorem lW {l:List UInt8} {r:Nat × Nat} (h:decodeN l.length (bt l 0) (bt l 1) (bt l 2) (bt l 3)=r) (hr:r≠(65533,1)):ek l=r:=by
 unfold ek;rw[tO,h,if_neg hr]
theorem kW {l:List UInt8} (h:decodeN l.length (bt l 0) (bt l 1) (bt l 2) (bt l 3)=(65533,1)):ek l=(0,0):=by
 unfold ek;rw[tO,h,if_pos rfl]
theorem wL {l:List UInt8} (h:bt l 0 < 128):ek l=(bt l 0,1) :=
 lW (by unfold decodeN;rw[if_pos h]) (by intro e;have:=congrArg Prod.fst e;simp at this;omega)
theorem vC {l:List UInt8} (h:128≤bt l 0) (h2:bt l 0 < 192∨248≤bt l 0):ek l=(0,0):=by
 have:=mr l 0
 exact kW (by unfold decodeN;rw[if_neg (by omega),if_neg (by omega),if_neg (by omega),if_neg (by omega)])
theorem wy {c:Nat}:(c,2)≠((65533,1):Nat × Nat):=by intro e;have:=congrArg Prod.snd e;simp at this
theorem sL {c:Nat}:(c,3)≠((65533,1):Nat × Nat):=by intro e;have:=congrArg Prod.snd e;simp at this
theorem uq {c:Nat}:(c,4)≠((65533,1):Nat × Nat):=by intro e;have:=congrArg Prod.snd e;simp at this
theorem t8 {l:List UInt8} (h:192≤bt l 0) (h2:bt l 0 < 224) :
 ek l=if 2≤l.length∧bt l 1 / 64=2∧128≤acc l 32 1 then (acc l 32 1,2) else (0,0):=by
 have e:acc l 32 1=bt l 0 % 32*64+bt l 1 % 64:=rfl
 split
 · rename_i k
   rw[e] at k ⊢;exact lW (by unfold decodeN;rw[if_neg (by omega),if_pos (by omega),if_pos (by omega)]) wy
 · rename_i k
   rw[e] at k;refine kW ?_;unfold decodeN;rw[if_neg (by omega)]
   by_cases k1:bt l 0 / 32=6∧(1 < l.length∧bt l 1 / 64=2)
   · rw[if_pos k1,if_neg (by omega)]
   · rw[if_neg k1,if_neg (by omega),if_neg (by omega)]
theorem sS {l:List UInt8} (h:224≤bt l 0) (h2:bt l 0 < 240) :
 ek l=if 3≤l.length∧bt l 1 / 64=2∧bt l 2 / 64=2∧2048≤acc l 16 2∧(acc l 16 2 < 55296∨57343 < acc l 16 2) then (acc l 16 2,3) else (0,0):=by
 have e:acc l 16 2=bt l 0 % 16*4096+bt l 1 % 64*64+bt l 2 % 64:=by show (bt l 0 % 16*64+bt l 1 % 64)*64+bt l 2 % 64=_;omega
 split
 · rename_i k
   rw[e] at k ⊢;exact lW (by unfold decodeN;rw[if_neg (by omega),if_neg (by omega),if_pos (by omega),if_pos (by omega)]) sL
 · rename_i k
   rw[e] at k;refine kW ?_;unfold decodeN;rw[if_neg (by omega),if_neg (by omega)]
   by_cases k1:bt l 0 / 16=14∧(1 < l.length∧bt l 1 / 64=2)∧(2 < l.length∧bt l 2 / 64=2)
   · rw[if_pos k1,if_neg (by omega)]
   · rw[if_neg k1,if_neg (by omega)]
theorem tC {l:List UInt8} (h:240≤bt l 0) (h2:bt l 0 < 248) :
 ek l=if 4≤l.length∧bt l 1 / 64=2∧bt l 2 / 64=2∧bt l 3 / 64=2∧65536≤acc l 8 3∧acc l 8 3≤1114111 then (acc l 8 3,4) else (0,0):=by
 have e:acc l 8 3=bt l 0 % 8*262144+bt l 1 % 64*4096+bt l 2 % 64*64+bt l 3 % 64:=by
  show ((bt l 0 % 8*64+bt l 1 % 64)*64+bt l 2 % 64)*64+bt l 3 % 64=_;omega
 split
 · rename_i k
   rw[e] at k ⊢;exact lW (by unfold decodeN;rw[if_neg (by omega),if_neg (by omega),if_neg (by omega),if_pos (by omega),if_pos (by omega)]) uq
 · rename_i k
   rw[e] at k;refine kW ?_;unfold decodeN;rw[if_neg (by omega),if_neg (by omega),if_neg (by omega)]
   by_cases k1:bt l 0 / 8=30∧(1 < l.length∧bt l 1 / 64=2)∧(2 < l.length∧bt l 2 / 64=2)∧(3 < l.length∧bt l 3 / 64=2)
   · rw[if_pos k1,if_neg (by omega)]
   · rw[if_neg k1]
def Lead (l:List UInt8) (n M least:Nat):Prop :=
 (192≤bt l 0∧bt l 0 < 224∧n=2∧M=32∧least=128)∨(224≤bt l 0∧bt l 0 < 240∧n=3∧M=16∧least=2048)∨(240≤bt l 0∧bt l 0 < 248∧n=4∧M=8∧least=65536)
theorem pt (l:List UInt8) (M:Nat) (hM:0 < M) (hM2:M≤32):acc l M 0 < 32∧acc l M 1 < 2048∧acc l M 2 < 131072∧acc l M 3 < 8388608:=by
 have a0:acc l M 0=bt l 0 % M:=rfl;have a1:acc l M 1=acc l M 0*64+bt l 1 % 64:=rfl;have a2:acc l M 2=acc l M 1*64+bt l 2 % 64:=rfl;have a3:acc l M 3=acc l M 2*64+bt l 3 % 64:=rfl
 have:=Nat.mod_lt (bt l 0) hM
 omega
theorem gw {l:List UInt8} {n M least:Nat} (h:Lead l n M least) (hs:l.length < n):ek l=(0,0):=by
 rcases h with ⟨a,b,rfl,rfl,rfl⟩ | ⟨a,b,rfl,rfl,rfl⟩ | ⟨a,b,rfl,rfl,rfl⟩
 · rw[t8 a b,if_neg (by omega)]
 · rw[sS a b,if_neg (by omega)]
 · rw[tC a b,if_neg (by omega)]
theorem lT {l:List UInt8} {n M least k:Nat} (h:Lead l n M least) (h1:1≤k) (h2:k < n) (hk:bt l k / 64≠2):ek l=(0,0):=by
 rcases h with ⟨a,b,rfl,rfl,rfl⟩ | ⟨a,b,rfl,rfl,rfl⟩ | ⟨a,b,rfl,rfl,rfl⟩
 · rw[t8 a b,if_neg]
   rintro ⟨_,c,_⟩;obtain rfl:k=1:=by omega
   exact hk c
 · rw[sS a b,if_neg]
   rintro ⟨_,c,d,_⟩;obtain rfl | rfl:k=1∨k=2:=by omega
   · exact hk c
   · exact hk d
 · rw[tC a b,if_neg]
   rintro ⟨_,c,d,e,_⟩;obtain rfl | rfl | rfl:k=1∨k=2∨k=3:=by omega
   · exact hk c
   · exact hk d
   · exact hk e
theorem l7 {l:List UInt8} {n M least:Nat} (h:Lead l n M least) (hs:n≤l.length) (hc:Cont l n) :
 ek l=if least≤acc l M (n - 1)∧acc l M (n - 1)≤1114111∧(acc l M (n - 1) < 55296∨57343 < acc l M (n - 1)) then (acc l M (n - 1),n) else (0,0):=by
 rcases h with ⟨a,b,rfl,rfl,rfl⟩ | ⟨a,b,rfl,rfl,rfl⟩ | ⟨a,b,rfl,rfl,rfl⟩
 · have:=pt l 32 (by omega) (by omega)
   have c1:=hc 1 (by omega) (by omega);rw[t8 a b,show (2:Nat) - 1=1 from rfl]
   by_cases k:128≤acc l 32 1
   · rw[if_pos ⟨hs,c1,k⟩,if_pos ⟨k,by omega,by omega⟩]
   · rw[if_neg (fun h=>k h.2.2),if_neg (fun h=>k h.1)]
 · have:=pt l 16 (by omega) (by omega)
   have c1:=hc 1 (by omega) (by omega);have c2:=hc 2 (by omega) (by omega);rw[sS a b,show (3:Nat) - 1=2 from rfl]
   by_cases k:2048≤acc l 16 2∧(acc l 16 2 < 55296∨57343 < acc l 16 2)
   · rw[if_pos ⟨hs,c1,c2,k⟩,if_pos ⟨k.1,by omega,k.2⟩]
   · rw[if_neg (fun h=>k h.2.2.2),if_neg (fun h=>k ⟨h.1,h.2.2⟩)]
 · have c1:=hc 1 (by omega) (by omega)
   have c2:=hc 2 (by omega) (by omega);have c3:=hc 3 (by omega) (by omega);rw[tC a b,show (4:Nat) - 1=3 from rfl]
   by_cases k:65536≤acc l 8 3∧acc l 8 3≤1114111
   · rw[if_pos ⟨hs,c1,c2,c3,k⟩,if_pos ⟨k.1,k.2,.inr (by show 57343 < acc l 8 3;omega)⟩]
   · rw[if_neg (fun h=>k h.2.2.2.2),if_neg (fun h=>k ⟨h.1,h.2.1⟩)]
theorem tj (l:List UInt8):nx l=if (ek l).2=0||!g7 (ek l).1 then (0,0) else ek l:=by
 unfold ek nx
 by_cases h:dc l=(65533,1)
 · rw[if_pos h,h];rfl
 · rw[if_neg h]
   have h1:=jA l;have h2:((dc l).1==65533&&(dc l).2==1)=false:=by
    cases e:((dc l).1==65533&&(dc l).2==1) with
    | false=>rfl
    | true=>exfalso;apply h;simp only[Bool.and_eq_true,beq_iff_eq] at e;exact Prod.ext e.1 e.2
   have h3:decide ((dc l).2=0)=false:=by simp;omega
   rw[h2,h3]
theorem jo (l:List UInt8) (M:Nat):acc l M 0=bt l 0 % M:=rfl
theorem jE (l:List UInt8) (M k:Nat):acc l M (k+1)=acc l M k*64+bt l (k+1) % 64:=rfl
theorem Lead.bound {l:List UInt8} {n M least:Nat} (h:Lead l n M least) (k:Nat) (hk:k < 4):acc l M k < 8388608:=by
 have hM:0 < M∧M≤32:=by rcases h with ⟨_,_,_,rfl,_⟩ | ⟨_,_,_,rfl,_⟩ | ⟨_,_,_,rfl,_⟩<;>omega
 have:=pt l M hM.1 hM.2
 obtain rfl | rfl | rfl | rfl:k=0∨k=1∨k=2∨k=3:=by omega
 all_goals omega
theorem vm (l:List UInt8) (i j:Nat) (h:i+j < l.length):bt (l.drop i) j=(l[i+j]'h).toNat:=by
 unfold bt
 simp[List.getD,List.getElem?_drop,List.getElem?_eq_getElem h]
theorem jD {l:List UInt8} {n M least:Nat}:Lead l n M least↔(192≤bt l 0∧bt l 0 < 224∧n=2∧M=32∧least=128)∨(224≤bt l 0∧bt l 0 < 240∧n=3∧M=16∧least=2048)∨(240≤bt l 0∧bt l 0 < 248∧n=4∧M=8∧least=65536):=Iff.rfl
theorem qj (l:List UInt8):(ek l).1≤1114111∧(ek l).2≤4∧((ek l).1 < 55296∨57343 < (ek l).1):=by
 unfold ek
 split
 · simp
 · exact⟨fj l,ww l,iV l⟩
theorem bg {l:List UInt8} {x:List Nat} (h:ch l=some x):valid l=true:=by unfold valid;rw[h];rfl
theorem bh {l:List UInt8} (h:ch l=none):valid l=false:=by unfold valid;rw[h];rfl
theorem bP {l:List UInt8} {x:List Nat} (h:ch l=some x):cI l=x:=by unfold cI;rw[h];rfl
theorem fM {l:List UInt8} (h:ch l=none):cI l=[]:=by unfold cI;rw[h];rfl
theorem dP {l:List UInt8} {x:List Nat} (h:ch l=some x) (most:Int):line l most=((low x==0)&&decide ((x.length:Int)≤most)):=by unfold line;rw[h]
theorem gV {l:List UInt8} (h:ch l=none) (most:Int):line l most=false:=by unfold line;rw[h]
theorem k7 (l:List UInt8):(cI l).length≤l.length:=by
 cases h:ch l with
 | none=>rw[fM h];simp
 | some x=>rw[bP h];exact fk _ _ _ (Nat.le_refl _) h
theorem eD {l:List UInt8} (h:valid l=true):ch l=some (cI l):=by
 cases hc:ch l with
 | none=>rw[bh hc] at h;cases h
 | some x=>rw[bP hc]
theorem lo {a b:List UInt8} (ha:valid a=true) (hb:valid b=true):valid (a++b)=true∧cI (a++b)=cI a++cI b:=by
 have h:=kL (b:=b) (eD ha);rw[eD hb] at h
 exact⟨bg h,bP h⟩
theorem dL (l:List UInt8) (j:Nat):bt l j=(l.getD j 0).toNat:=rfl
attribute [irreducible] bt acc Cont ek Lead
attribute [irreducible] valid cI line
attribute [irreducible] g7 dc nx ch low At
end Go.Proofs.YtbgaglcgennhiaaGreatDoor.Tx

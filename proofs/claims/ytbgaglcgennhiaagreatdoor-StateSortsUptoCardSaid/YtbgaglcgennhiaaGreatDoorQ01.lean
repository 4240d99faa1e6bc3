import Derived.WalkKit
import Derived.Lib.Hide
import Derived.Test.YtbgaglcgennhiaaGreatDoorRows
import Derived.WalkSpells
import Derived.WalkLawsBesides
import Derived.Deep.QuietTactic
import Derived.BigQuiet
import Derived.Lib.DecodeN
import Derived.Lib.Strings
import Derived.Laws.IdiomStrings
import Derived.Laws.Cover4
import Derived.Lib.MapLaws
import Derived.Lib.Join
import Derived.Lib.SplitLaws
set_option maxHeartbeats 1000000
namespace Go.Proofs.YtbgaglcgennhiaaGreatDoor
section
open Go.RowKit
theorem ac {α:Sort _} (a:α):∃ b,a=b:=⟨a,rfl⟩
theorem aa {p:Prop} (h:p):Hid p:=h
theorem aP {w:World} {a b:Addr} {v:Value} (h:a≠b:=by simp):(w.setCell a v).cell? b=w.cell? b:=World.cell?_setCell_other w a b v h
theorem ay:(∀ (a:Act) (d:Nat) (v:Value),a.put (some d) v={a with tmps:=a.tmps.setIfInBounds d v})/\(∀ (a:Act) (v:Value),a.put none v=a)/\(∀ (α:Type) (l:List α) (i:Nat) (x:α),l.toArray.setIfInBounds i x=(l.set i x).toArray)/\(∀ (α:Type) (a b:α) (l:List α),(a::l).set 0 b=b::l)/\∀ (α:Type) (a b:α) (l:List α) (i:Nat),(a::l).set (i+1) b=a::l.set i b:=⟨fun _ _ _=>rfl,fun _ _=>rfl,fun _ _ _ _=>List.setIfInBounds_toArray ..,fun _ _ _ _=>rfl,fun _ _ _ _ _=>rfl⟩
theorem aO (n:Int):IntKind.i64.wrap n=(n+9223372036854775808)%18446744073709551616-9223372036854775808:=IntKind.wrap_i64 n
theorem cD {α:Type _} {l:List α} {i:Nat} {a:α}:l[i]?=some a->∃ h:i<l.length,l[i]=a:=List.getElem?_eq_some_iff.1
theorem eB {α:Type _} {l:List α}:l.length=0->l=[]:=List.length_eq_zero_iff.1
theorem cr {α:Type _} {β:Type _} {xs:List α} (f:α->β):(List.map f xs).length=xs.length:=List.length_map f
theorem de {α:Type _} {xs ys:List α}:(xs++ys).length=xs.length+ys.length:=List.length_append
theorem dL {α:Type _} {i:Nat} {l:List α}:(List.take i l).length=min i l.length:=List.length_take
theorem bS (s:ByteArray):s.size=s.data.toList.length:=Lib.size_eq s
theorem fA {α:Type _} {l:List α} {i:Nat} {a:α}:l[i]?=some a->a∈l:=List.mem_of_getElem?
theorem bI (n:Nat):0<=n:=Nat.zero_le n
theorem co {n m k:Nat}:n<=m->m<=k->n<=k:=Nat.le_trans
theorem aQ {α:Type _} {l:List α} {i:Nat} (h:i<l.length):l[i]?=some l[i]:=List.getElem?_eq_getElem h
theorem aq (n:Nat):n<=n:=Nat.le_refl n
theorem aE (B:Nat) (w:World):Below B w w:=Below.refl B w
theorem bp (w:World) (o:Obj):Below w.heap.size w (w.alloc o):=(Below.refl _ _).alloc (Nat.le_refl _) o
theorem bq {p:Prop} [Decidable p] (h:p):decide p=true:=decide_eq_true h
theorem bF {p:Prop} [Decidable p] (h:¬p):decide p=false:=decide_eq_false h
def Bk (w:World) (g:Nat) (t:TypeId) (cs:Array Value):Prop:=w.heap[g]?=some (.cells cs t (0,0))
namespace Bk
variable {w w':World} {g:Nat} {t:TypeId} {cs:Array Value}
theorem lt (h:Bk w g t cs):g<w.heap.size:=lt_of_block h
theorem cell (h:Bk w g t cs) (i:Nat):w.cell? ⟨g,i,none⟩=cs[i]?:=cell_of_row w g i cs t (0,0) h
theorem free (h:Bk w g t cs) (i:Nat):w.frozen? ⟨g,i,none⟩=false:=by have e:w.heap[g]?=some (.cells cs t (0,0)):=h;simp[World.frozen?,e]
theorem new (w:World) (t:TypeId) (cs:Array Value):Bk (w.alloc (.cells cs t)) w.heap.size t cs:=heap_alloc_new w _
theorem new1 (w:World) (o:Obj) (t:TypeId) (cs:Array Value):Bk ((w.alloc o).alloc (.cells cs t)) (w.heap.size+1) t cs:=by have h:=new (w.alloc o) t cs;rwa [World.size_alloc] at h
theorem new2 (w:World) (o p:Obj) (t:TypeId) (cs:Array Value):Bk (((w.alloc o).alloc p).alloc (.cells cs t)) (w.heap.size+1+1) t cs:=by have h:=new ((w.alloc o).alloc p) t cs;rwa [World.size_alloc,World.size_alloc] at h
theorem alloc (h:Bk w g t cs) (o:Obj):Bk (w.alloc o) g t cs:=(Below.heap_alloc w o g h.lt).trans h
theorem drew (h:Bk w g t cs):Bk w.drew g t cs:=h
theorem far (h:Bk w g t cs) {p:Addr} (hp:g≠p.block) (u:Value):Bk (w.setCell p u) g t cs:=(Below.heap_setCell w p u g hp).trans h
theorem put (h:Bk w g t cs) (i:Nat) (u:Value):Bk (w.setCell ⟨g,i,none⟩ u) g t (cs.setIfInBounds i u):=by have e:w.heap[g]?=some (.cells cs t (0,0)):=h;show (w.heap.modify g _)[g]?=_;simp[Array.getElem?_modify,e]
theorem two {a b:Value} (h:Bk w g t #[a,b]) (u v:Value):Bk ((w.setCell ⟨g,0,none⟩ u).setCell ⟨g,1,none⟩ v) g t #[u,v]:=by have:=(h.put 0 u).put 1 v;simpa using this
theorem below {B:Nat} (h:Bk w g t cs) (hb:Below B w w') (hg:g<B):Bk w' g t cs:=(hb.block g hg).trans h
end Bk
theorem aV {a b:Bool} (h:a=b):Ending.returned (.bool a)=.returned (.bool b):=by rw[h]
theorem aS (g o i:Nat):(⟨g,o,none⟩:Addr).add i=⟨g,o+i,none⟩:=by unfold Addr.add;split<;>simp_all
theorem aC (a:Addr) (i:Nat):(a.add i).block=a.block:=by unfold Addr.add;split<;>rfl
theorem lQ {α:Type} {x y:List α} {k:Nat} {a b:α} (hx:x[k]?=some a) (hy:y[k]?=some b) (h:x.take k=y.take k) (hk:a=b):x.take (k+1)=y.take (k+1):=by rw[List.take_add_one,List.take_add_one,h,hx,hy,hk]
theorem nd:(Tryz.prog.info? 3).map (fun i=>(i.zero,i.size,i.bytes))=some (some (.int .i64 0),1,8):=by kernel_rfl
def cV (x:List Nat):List Value:=x.map fun c=>.int .i64 (c:Nat)
theorem oW (x:List Nat):(cV x).length=x.length:=cr _
theorem tz (x:List Nat) (c:Nat):cV (x++[c])=cV x++[.int .i64 (c:Nat)]:=by simp[cV]
theorem oV (x:List Nat) (i:Nat) (h:i<x.length):(cV x)[i]?=some (.int .i64 (x.getD i 0:Nat)):=by simp[cV,List.getElem?_map,List.getD,aQ h]
theorem wO (a:Nat):(cV [a]).toArray=#[.int .i64 (a:Nat)]:=rfl
theorem wP (a b:Nat):(cV [a,b]).toArray=#[.int .i64 (a:Nat),.int .i64 (b:Nat)]:=rfl
theorem oU (x y:List Nat):cV (x++y)=cV x++cV y:=by simp[cV]
theorem q8 (x:List Nat):∀ u∈cV x,u.oneCell'=true:=by intro u hu;obtain⟨c,_,rfl⟩:=List.mem_map.1 hu;rfl
attribute [irreducible] cV
def Owned (B:Nat) (w:World) (v:Value) (x:List Nat):Prop:=w.ownsRow B 3 1 v x.length (cV x)
theorem Owned.nil (B:Nat) (w:World):Owned B w (.slice none 0 0) []:=by unfold Owned;rw[show cV []=[] from by unfold cV;rfl];exact World.ownsRow_nil _ _ _ _
theorem Owned.below {B:Nat} {w w':World} {v:Value} {x:List Nat} (h:Owned B w v x) (hb:Below w.heap.size w w'):Owned B w' v x:=by
 have h':w.ownsRow B 3 1 v x.length (cV x):=h;refine h'.kept (w':=w') (row:=some w.heap.size) ⟨hb.os,hb.tape,hb.output,hb.size,fun i hi _=>hb.block i hi⟩ ?_;cases ho:v.ownBlock with
 |none=>exact .inl rfl
 |some g=>exact .inr (fun e=>by have:=(h'.lt g ho).2;injection e with e;omega)
def zM (B:Nat) (w:World) (x:List Nat) (c:Nat) (e:Ending) (w':World):Prop:=∃ v',e=.returned v'/\Owned B w' v' (x++[c])/\Below B w w'
theorem mx {B:Nat} {w w1:World} {v v':Value} {x:List Nat} {c:Nat} {o:Obj} (hown:Owned B w v x) (hB:B<=w.heap.size)
 (hown':w1.ownsRow B 3 1 v' (x.length+1) (cV x++[.int .i64 (c:Nat)])) (hg:(w.alloc o).grownBy w1 v.ownBlock):Owned B w1 v' (x++[c])/\Below B w w1:=by
 refine⟨by unfold Owned;rw[tz];simpa using hown',?_⟩;exact((Below.refl B w).alloc hB o).grown hg (by simp;omega) (fun j hj=>(hown.lt j hj).1)
def Reads (B:Nat) (w:World) (v:Value) (x:List Nat):Prop:=∃ A cap,v=.slice A x.length cap/\(0<x.length->∃ ad:Addr,A=some ad/\ad.block<B/\∀ i,i<x.length->w.cell? (ad.add i)=some (.int .i64 (x.getD i 0:Nat)))
theorem Reads.below {B:Nat} {w w':World} {v:Value} {x:List Nat} (h:Reads B w v x) (hb:Below B w w'):Reads B w' v x:=by
 obtain⟨A,cap,rfl,h2⟩:=h;refine⟨A,cap,rfl,fun h0=>?_⟩;obtain⟨ad,rfl,hl,hc⟩:=h2 h0;refine⟨ad,rfl,hl,fun i hi=>(hb.cell ?_).trans (hc i hi)⟩;have:(ad.add i).block=ad.block:=by unfold Addr.add;split<;>rfl
 omega
theorem Reads.more {B C:Nat} {w:World} {v:Value} {x:List Nat} (h:Reads B w v x) (hB:B<=C):Reads C w v x:=by obtain⟨A,cap,rfl,h2⟩:=h;refine⟨A,cap,rfl,fun h0=>?_⟩;obtain⟨ad,rfl,hl,hc⟩:=h2 h0;exact⟨ad,rfl,by omega,hc⟩
theorem Owned.reads {B:Nat} {w:World} {v:Value} {x:List Nat} (h:Owned B w v x):Reads w.heap.size w v x:=by
 have h':w.ownsRow B 3 1 v x.length (cV x):=h;rcases h'.2 with ⟨rfl,h0⟩|⟨g,cap,cur,rfl,_,hh,_⟩
 ·exact⟨none,0,by rw[h0],fun h=>absurd h (by omega)⟩
 ·refine⟨_,cap,rfl,fun h0=>⟨_,rfl,lt_of_block hh,fun i hi=>?_⟩⟩;exact h'.cells (g:=g) rfl i _ (oV x i hi)
theorem Reads.made (w:World) (t:TypeId) (x:List Nat) (cs:Array Value) (cap n:Nat) (hcs:(cV x).toArray=cs) (hn:x.length=n):Reads (w.heap.size+1) (w.alloc (.cells cs t)) (.slice (some ⟨w.heap.size,0,none⟩) n cap) x:=by
 subst hcs;subst hn;refine⟨_,cap,rfl,fun _=>⟨_,rfl,Nat.lt_succ_self _,fun i hi=>?_⟩⟩;have hb:=Bk.new w t (cV x).toArray;have:=hb.cell i;have e:(⟨w.heap.size,0,none⟩:Addr).add i=⟨w.heap.size,i,none⟩:=by unfold Addr.add;split<;>simp_all
 rw[e,this,List.getElem?_toArray,oV x i hi]
end
namespace Tx
open Go.Lib
def jD (c:Nat):Bool:=c==9||c==10||c==13||(decide (32<=c)&&!(c==65534)&&!(c==65535))
def dc (l:List UInt8):Nat × Nat:=decodeN l.length (l.getD 0 0).toNat (l.getD 1 0).toNat (l.getD 2 0).toNat (l.getD 3 0).toNat
def nx (l:List UInt8):Nat × Nat:=if (dc l).1==65533&&(dc l).2==1||!jD (dc l).1 then (0,0) else dc l
def zU:Nat->List UInt8->Option (List Nat)
 |0,l=>if l=[] then some [] else none
 |f+1,l=>if l=[] then some [] else if (nx l).2=0 then none else (zU f (l.drop (nx l).2)).map ((nx l).1::·)
def ch (l:List UInt8):Option (List Nat):=zU l.length l
theorem vZ (n b0 b1 b2 b3:Nat):1<=(decodeN n b0 b1 b2 b3).2:=by
 unfold decodeN
 repeat' split
 all_goals simp
theorem we (n b0 b1 b2 b3:Nat):(decodeN n b0 b1 b2 b3).2<=4:=by
 unfold decodeN
 repeat' split
 all_goals simp
theorem yT (n b0 b1 b2 b3:Nat) (hn:1<=n):(decodeN n b0 b1 b2 b3).2<=n:=by
 unfold decodeN
 repeat' split
 all_goals (simp only;omega)
theorem tg (n b0 b1 b2 b3:Nat) (_h0:b0<256):(decodeN n b0 b1 b2 b3).1<=1114111:=by
 unfold decodeN
 repeat' split
 all_goals (simp only;omega)
theorem qE (n b0 b1 b2 b3:Nat) (_h0:b0<256):(decodeN n b0 b1 b2 b3).1<55296\/57343<(decodeN n b0 b1 b2 b3).1:=by
 unfold decodeN
 repeat' split
 all_goals (simp only;omega)
theorem tf (n m b0 b1 b2 b3 c1 c2 c3:Nat) (_h0:1<=n) (hm:n<=m) (h1:1<n->c1=b1) (h2:2<n->c2=b2) (h3:3<n->c3=b3)
 (hok:decodeN n b0 b1 b2 b3≠(65533,1)):decodeN m b0 c1 c2 c3=decodeN n b0 b1 b2 b3:=by
 by_cases a:b0<128
 ·simp[decodeN,a]
 by_cases b:b0 / 32=6
 ·by_cases k:1<n/\b1 / 64=2
  ·have:=h1 k.1;subst this;have km:1<m/\c1 / 64=2:=⟨by omega,k.2⟩;simp only[decodeN,a,b,k,km,and_self,if_true,if_false]
  ·exfalso;apply hok;have e:b0 / 16≠14:=(by omega);have f:b0 / 8≠30:=(by omega);simp only[decodeN,a,b,k,e,f,and_false,false_and,if_false]
 by_cases c:b0 / 16=14
 ·by_cases k:(1<n/\b1 / 64=2)/\(2<n/\b2 / 64=2)
  ·have e1:=h1 k.1.1;subst e1;have e2:=h2 k.2.1;subst e2;have km:(1<m/\c1 / 64=2)/\(2<m/\c2 / 64=2):=⟨⟨by omega,k.1.2⟩,by omega,k.2.2⟩;simp only[decodeN,a,b,c,k,km,and_self,false_and,if_true,if_false]
  ·exfalso;apply hok;have f:b0 / 8≠30:=(by omega);simp only[decodeN,a,b,k,f,and_false,false_and,if_false]
 by_cases d:b0 / 8=30
 ·by_cases k:(1<n/\b1 / 64=2)/\(2<n/\b2 / 64=2)/\(3<n/\b3 / 64=2)
  ·have e1:=h1 k.1.1;subst e1;have e2:=h2 k.2.1.1;subst e2;have e3:=h3 k.2.2.1;subst e3;have km:(1<m/\c1 / 64=2)/\(2<m/\c2 / 64=2)/\(3<m/\c3 / 64=2):=⟨⟨by omega,k.1.2⟩,⟨by omega,k.2.1.2⟩,by omega,k.2.2.2⟩;simp only[decodeN,a,b,c,d,k,km,and_self,false_and,if_true,if_false]
  ·exfalso;apply hok;simp only[decodeN,a,b,c,k,and_false,false_and,if_false]
 ·exfalso;apply hok;simp only[decodeN,a,b,c,d,false_and,if_false]
theorem kC (l:List UInt8):1<=(dc l).2:=vZ _ _ _ _ _
theorem zW (l:List UInt8):(dc l).2<=4:=we _ _ _ _ _
theorem vX {l:List UInt8} (h:l≠[]):(dc l).2<=l.length:=yT _ _ _ _ _ (by cases l with|nil=>exact absurd rfl h|cons=>simp)
theorem f7 (l:List UInt8):(dc l).1<=1114111:=tg _ _ _ _ _ (UInt8.toNat_lt _)
theorem kE (l:List UInt8):(dc l).1<55296\/57343<(dc l).1:=qE _ _ _ _ _ (UInt8.toNat_lt _)
theorem lc (l:List UInt8):(nx l=(0,0)/\((dc l=(65533,1))\/jD (dc l).1=false))\/(nx l=dc l/\dc l≠(65533,1)/\jD (dc l).1=true):=by
 unfold nx;by_cases h:((dc l).1==65533&&(dc l).2==1||!jD (dc l).1)=true
 ·rw[if_pos h];refine .inl ⟨rfl,?_⟩;simp only[Bool.or_eq_true,Bool.and_eq_true,beq_iff_eq,Bool.not_eq_true'] at h;rcases h with ⟨a,b⟩|h
  ·exact .inl (Prod.ext a b)
  ·exact .inr h
 ·rw[if_neg h];refine .inr ⟨rfl,?_,?_⟩
  ·intro e;apply h;rw[e];simp
  ·cases hk:jD (dc l).1 with
   |true=>rfl
   |false=>exact absurd (by simp[hk]) h
theorem nl {l:List UInt8} (h:(nx l).2≠0):nx l=dc l/\dc l≠(65533,1)/\jD (dc l).1=true:=by
 rcases lc l with ⟨e,_⟩|h'
 ·rw[e] at h;exact absurd rfl h
 ·exact h'
theorem po {l:List UInt8} (h:l≠[]):(nx l).2<=l.length:=by
 rcases lc l with ⟨e,_⟩|⟨e,_⟩
 ·rw[e];simp
 ·rw[e];exact vX h
theorem zf (l:List UInt8):(nx l).1<=1114111:=by
 rcases lc l with ⟨e,_⟩|⟨e,_⟩
 ·rw[e];simp
 ·rw[e];exact f7 l
theorem sw (f:Nat):zU f []=some []:=by cases f<;>rfl
theorem kx (f:Nat) (l:List UInt8):zU (f+1) l=if l=[] then some [] else if (nx l).2=0 then none else (zU f (l.drop (nx l).2)).map ((nx l).1::·):=rfl
theorem kw:∀ (f g:Nat) (l:List UInt8),l.length<=f->l.length<=g->zU f l=zU g l
 |f,g,[],_,_=>by rw[sw,sw]
 |0,_,_::_,h,_=>by simp at h
 |_+1,0,_::_,_,h=>by simp at h
 | f+1,g+1,a::l,hf,hg=>by
   rw[kx,kx,if_neg (List.cons_ne_nil a l),if_neg (List.cons_ne_nil a l)];by_cases h:(nx (a::l)).2=0
   ·rw[if_pos h,if_pos h]
   ·rw[if_neg h,if_neg h,kw f g _ (by simp at hf ⊢;omega) (by simp at hg ⊢;omega)]
theorem fD:ch []=some []:=rfl
theorem sx {l:List UInt8} (hl:l≠[]):ch l=if (nx l).2=0 then none else (ch (l.drop (nx l).2)).map ((nx l).1::·):=by
 cases l with
 |nil=>exact absurd rfl hl
 | cons a t=>
   unfold ch;rw[show (a::t).length=t.length+1 from rfl];rw[kx,if_neg (by simp)];by_cases h:(nx (a::t)).2=0
   ·rw[if_pos h,if_pos h]
   ·rw[if_neg h,if_neg h,kw t.length _ _ (by simp;omega) (aq _)]
theorem ky {l:List UInt8} (hl:l≠[]) (h:(nx l).2=0):ch l=none:=by rw[sx hl,if_pos h]
theorem fc {l:List UInt8} (hl:l≠[]) (h:(nx l).2≠0):ch l=(ch (l.drop (nx l).2)).map ((nx l).1::·):=by rw[sx hl,if_neg h]
theorem io {a b:List UInt8} {i:Nat} (h:i<a.length):(a++b).getD i 0=a.getD i 0:=by simp[List.getD,List.getElem?_append,h]
theorem xx {a:List UInt8} (b:List UInt8) (ha:a≠[]) (h:(nx a).2≠0):nx (a++b)=nx a:=by
 obtain⟨e,h1,h2⟩:=nl h;have hl:1<=a.length:=by cases a with|nil=>exact absurd rfl ha|cons=>simp
 have hd:dc (a++b)=dc a:=by unfold dc at h1 ⊢;rw[io (show 0<a.length from hl)];exact tf _ _ _ _ _ _ _ _ _ hl (by simp) (fun hi=>by rw[io hi]) (fun hi=>by rw[io hi]) (fun hi=>by rw[io hi]) h1
 unfold nx;rw[hd]
theorem vT:∀ (n:Nat) (a b:List UInt8) (x:List Nat),a.length<=n->ch a=some x->ch (a++b)=(ch b).map (x++·):=by
 intro n
 induction n with
 | zero=>intro a b x ha hx;obtain rfl:a=[]:=List.eq_nil_of_length_eq_zero (by omega);obtain rfl:[]=x:=Option.some.inj hx;show ch b=_;cases ch b<;>rfl
 | succ n ih=>
   intro a b x ha hx;by_cases hn:a=[]
   ·subst hn;obtain rfl:[]=x:=Option.some.inj hx;show ch b=_;cases ch b<;>rfl
   ·by_cases h:(nx a).2=0
    ·rw[ky hn h] at hx;cases hx
    ·rw[fc hn h] at hx;have hle:=po hn;rw[fc (by simp[hn]) (by rw[xx b hn h];exact h),xx b hn h,List.drop_append_of_le_length hle];cases hy:ch (a.drop (nx a).2) with
     |none=>rw[hy] at hx;cases hx
     | some y=>rw[hy] at hx;obtain rfl:(nx a).1::y=x:=Option.some.inj hx;rw[ih (a.drop (nx a).2) b y (by rw[List.length_drop];omega) hy];cases ch b<;>rfl
theorem mg {a b:List UInt8} {x:List Nat} (h:ch a=some x):ch (a++b)=(ch b).map (x++·):=vT _ a b x (aq _) h
theorem fZ:∀ (n:Nat) (a:List UInt8) (x:List Nat),a.length<=n->ch a=some x->x.length<=a.length:=by
 intro n
 induction n with
 | zero=>intro a x ha hx;obtain rfl:a=[]:=List.eq_nil_of_length_eq_zero (by omega);obtain rfl:[]=x:=Option.some.inj hx;simp
 | succ n ih=>
   intro a x ha hx;by_cases hn:a=[]
   ·subst hn;obtain rfl:[]=x:=Option.some.inj hx;simp
   ·by_cases h:(nx a).2=0
    ·rw[ky hn h] at hx;cases hx
    ·rw[fc hn h] at hx;have hle:=po hn;cases hy:ch (a.drop (nx a).2) with
     |none=>rw[hy] at hx;cases hx
     | some y=>rw[hy] at hx;obtain rfl:(nx a).1::y=x:=Option.some.inj hx;have:=ih _ y (by rw[List.length_drop];omega) hy;rw[List.length_drop] at this;simp;omega
def low (x:List Nat):Nat:=(x.filter (fun c=>decide (c<32))).length
theorem Ae (x:List Nat):low x<=x.length:=List.length_filter_le _ _
theorem wY (x:List Nat) (c:Nat):low (x++[c])=if c<32 then low x+1 else low x:=by unfold low;rw[List.filter_append];by_cases h:c<32<;>simp[h]
def line (l:List UInt8) (most:Int):Bool:=match ch l with
 |some x=>(low x==0)&&decide ((x.length : Int)<=most)
 |none=>false
def valid (l:List UInt8):Bool:=(ch l).isSome
def dB (l:List UInt8):List Nat:=(ch l).getD []
theorem f8 {l:List UInt8} {k:Nat} (h:k<l.length):l.drop k≠[]:=by intro e;have:=congrArg List.length e;rw[List.length_drop] at this;simp at this;omega
def At (l:List UInt8) (k:Nat) (x:List Nat):Prop:=k<=l.length/\x.length<=k/\ch l=(ch (l.drop k)).map (x++·)
theorem At.start (l:List UInt8):At l 0 []:=⟨bI _,aq _,by rw[List.drop_zero];cases ch l<;>rfl⟩
theorem At.stop {l:List UInt8} {x:List Nat} (h:At l l.length x):ch l=some x:=by have:=h.2.2;rw[List.drop_length,fD] at this;simpa using this
theorem At.next {l:List UInt8} {k:Nat} {x:List Nat} (h:At l k x) (hk:k<l.length) (hn:(nx (l.drop k)).2≠0):At l (k+(nx (l.drop k)).2) (x++[(nx (l.drop k)).1]):=by have hne:=f8 hk;have h1:=po hne;rw[List.length_drop] at h1;refine⟨by omega,by have:=h.2.1;simp;omega,?_⟩;rw[h.2.2,fc hne hn,List.drop_drop];cases ch (List.drop (k+(nx (List.drop k l)).2) l)<;>simp
theorem At.bad {l:List UInt8} {k:Nat} {x:List Nat} (h:At l k x) (hk:k<l.length) (hn:(nx (l.drop k)).2=0):ch l=none:=by rw[h.2.2,ky (f8 hk) hn];rfl
theorem rq (c:Nat):jD c=(c==9||c==10||c==13||(decide (32<=c)&&!(c==65534)&&!(c==65535))):=rfl
theorem zF (l:List UInt8):dc l=decodeN l.length (l.getD 0 0).toNat (l.getD 1 0).toNat (l.getD 2 0).toNat (l.getD 3 0).toNat:=rfl
theorem xy (l:List UInt8):nx l=if (dc l).1==65533&&(dc l).2==1||!jD (dc l).1 then (0,0) else dc l:=rfl
theorem sJ:low []=0:=rfl
theorem nh (x:List Nat):low x=(x.filter (fun c=>decide (c<32))).length:=rfl
def bt (l:List UInt8) (j:Nat):Nat:=(l.getD j 0).toNat
theorem ow (l:List UInt8) (j:Nat):bt l j<256:=UInt8.toNat_lt _
def acc (l:List UInt8) (M:Nat):Nat->Nat
 |0=>bt l 0 % M
 |k+1=>acc l M k*64+bt l (k+1) % 64
def Cont (l:List UInt8) (k:Nat):Prop:=∀ j,1<=j->j<k->bt l j / 64=2
theorem Cont.one (l:List UInt8):Cont l 1:=fun j h1 h2=>by omega
theorem Cont.next {l:List UInt8} {k:Nat} (h:Cont l k) (hk:bt l k / 64=2):Cont l (k+1):=fun j h1 h2=>by
 rcases Nat.lt_or_ge j k with h3|h3
 ·exact h j h1 h3
 ·rw[show j=k by omega];exact hk
def fy (l:List UInt8):Nat × Nat:=if dc l=(65533,1) then (0,0) else dc l
theorem vW (l:List UInt8):dc l=decodeN l.length (bt l 0) (bt l 1) (bt l 2) (bt l 3):=rfl
theorem nB {l:List UInt8} {r:Nat × Nat} (h:decodeN l.length (bt l 0) (bt l 1) (bt l 2) (bt l 3)=r) (hr:r≠(65533,1)):fy l=r:=by unfold fy;rw[vW,h,if_neg hr]
theorem nz {l:List UInt8} (h:decodeN l.length (bt l 0) (bt l 1) (bt l 2) (bt l 3)=(65533,1)):fy l=(0,0):=by unfold fy;rw[vW,h,if_pos rfl]
theorem AO {l:List UInt8} (h:bt l 0<128):fy l=(bt l 0,1):=nB (by unfold decodeN;rw[if_pos h]) (by intro e;have:=congrArg Prod.fst e;simp at this;omega)
theorem zI {l:List UInt8} (h:128<=bt l 0) (h2:bt l 0<192\/248<=bt l 0):fy l=(0,0):=by have:=ow l 0;exact nz (by unfold decodeN;rw[if_neg (by omega),if_neg (by omega),if_neg (by omega),if_neg (by omega)])
theorem Ar {c:Nat}:(c,2)≠((65533,1):Nat × Nat):=by intro e;have:=congrArg Prod.snd e;simp at this
theorem yt {c:Nat}:(c,3)≠((65533,1):Nat × Nat):=by intro e;have:=congrArg Prod.snd e;simp at this
theorem yV {c:Nat}:(c,4)≠((65533,1):Nat × Nat):=by intro e;have:=congrArg Prod.snd e;simp at this
theorem xP {l:List UInt8} (h:192<=bt l 0) (h2:bt l 0<224):
 fy l=if 2<=l.length/\bt l 1 / 64=2/\128<=acc l 32 1 then (acc l 32 1,2) else (0,0):=by
 have e:acc l 32 1=bt l 0 % 32*64+bt l 1 % 64:=rfl;split
 ·rename_i k
  rw[e] at k ⊢;exact nB (by unfold decodeN;rw[if_neg (by omega),if_pos (by omega),if_pos (by omega)]) Ar
 ·rename_i k
  rw[e] at k;refine nz ?_;unfold decodeN;rw[if_neg (by omega)];by_cases k1:bt l 0 / 32=6/\(1<l.length/\bt l 1 / 64=2)
  ·rw[if_pos k1,if_neg (by omega)]
  ·rw[if_neg k1,if_neg (by omega),if_neg (by omega)]
theorem xQ {l:List UInt8} (h:224<=bt l 0) (h2:bt l 0<240):
 fy l=if 3<=l.length/\bt l 1 / 64=2/\bt l 2 / 64=2/\2048<=acc l 16 2/\(acc l 16 2<55296\/57343<acc l 16 2) then (acc l 16 2,3) else (0,0):=by
 have e:acc l 16 2=bt l 0 % 16*4096+bt l 1 % 64*64+bt l 2 % 64:=by show (bt l 0 % 16*64+bt l 1 % 64)*64+bt l 2 % 64=_;omega
 split
 ·rename_i k
  rw[e] at k ⊢;exact nB (by unfold decodeN;rw[if_neg (by omega),if_neg (by omega),if_pos (by omega),if_pos (by omega)]) yt
 ·rename_i k
  rw[e] at k;refine nz ?_;unfold decodeN;rw[if_neg (by omega),if_neg (by omega)];by_cases k1:bt l 0 / 16=14/\(1<l.length/\bt l 1 / 64=2)/\(2<l.length/\bt l 2 / 64=2)
  ·rw[if_pos k1,if_neg (by omega)]
  ·rw[if_neg k1,if_neg (by omega)]
theorem xR {l:List UInt8} (h:240<=bt l 0) (h2:bt l 0<248):
 fy l=if 4<=l.length/\bt l 1 / 64=2/\bt l 2 / 64=2/\bt l 3 / 64=2/\65536<=acc l 8 3/\acc l 8 3<=1114111 then (acc l 8 3,4) else (0,0):=by
 have e:acc l 8 3=bt l 0 % 8*262144+bt l 1 % 64*4096+bt l 2 % 64*64+bt l 3 % 64:=by show ((bt l 0 % 8*64+bt l 1 % 64)*64+bt l 2 % 64)*64+bt l 3 % 64=_;omega
 split
 ·rename_i k
  rw[e] at k ⊢;exact nB (by unfold decodeN;rw[if_neg (by omega),if_neg (by omega),if_neg (by omega),if_pos (by omega),if_pos (by omega)]) yV
 ·rename_i k
  rw[e] at k;refine nz ?_;unfold decodeN;rw[if_neg (by omega),if_neg (by omega),if_neg (by omega)];by_cases k1:bt l 0 / 8=30/\(1<l.length/\bt l 1 / 64=2)/\(2<l.length/\bt l 2 / 64=2)/\(3<l.length/\bt l 3 / 64=2)
  ·rw[if_pos k1,if_neg (by omega)]
  ·rw[if_neg k1]
def Lead (l:List UInt8) (n M least:Nat):Prop:=(192<=bt l 0/\bt l 0<224/\n=2/\M=32/\least=128)\/(224<=bt l 0/\bt l 0<240/\n=3/\M=16/\least=2048)\/(240<=bt l 0/\bt l 0<248/\n=4/\M=8/\least=65536)
theorem qw (l:List UInt8) (M:Nat) (hM:0<M) (hM2:M<=32):acc l M 0<32/\acc l M 1<2048/\acc l M 2<131072/\acc l M 3<8388608:=by have a0:acc l M 0=bt l 0 % M:=rfl;have a1:acc l M 1=acc l M 0*64+bt l 1 % 64:=rfl;have a2:acc l M 2=acc l M 1*64+bt l 2 % 64:=rfl;have a3:acc l M 3=acc l M 2*64+bt l 3 % 64:=rfl;have:=Nat.mod_lt (bt l 0) hM;omega
theorem jd {l:List UInt8} {n M least:Nat} (h:Lead l n M least) (hs:l.length<n):fy l=(0,0):=by
 rcases h with ⟨a,b,rfl,rfl,rfl⟩|⟨a,b,rfl,rfl,rfl⟩|⟨a,b,rfl,rfl,rfl⟩
 ·rw[xP a b,if_neg (by omega)]
 ·rw[xQ a b,if_neg (by omega)]
 ·rw[xR a b,if_neg (by omega)]
theorem nA {l:List UInt8} {n M least k:Nat} (h:Lead l n M least) (h1:1<=k) (h2:k<n) (hk:bt l k / 64≠2):fy l=(0,0):=by
 rcases h with ⟨a,b,rfl,rfl,rfl⟩|⟨a,b,rfl,rfl,rfl⟩|⟨a,b,rfl,rfl,rfl⟩
 ·rw[xP a b,if_neg];rintro ⟨_,c,_⟩;obtain rfl:k=1:=(by omega);exact hk c
 ·rw[xQ a b,if_neg];rintro ⟨_,c,d,_⟩;obtain rfl|rfl:k=1\/k=2:=by omega
  ·exact hk c
  ·exact hk d
 ·rw[xR a b,if_neg];rintro ⟨_,c,d,e,_⟩;obtain rfl|rfl|rfl:k=1\/k=2\/k=3:=by omega
  ·exact hk c
  ·exact hk d
  ·exact hk e
theorem ny {l:List UInt8} {n M least:Nat} (h:Lead l n M least) (hs:n<=l.length) (hc:Cont l n):
 fy l=if least<=acc l M (n-1)/\acc l M (n-1)<=1114111/\(acc l M (n-1)<55296\/57343<acc l M (n-1)) then (acc l M (n-1),n) else (0,0):=by
 rcases h with ⟨a,b,rfl,rfl,rfl⟩|⟨a,b,rfl,rfl,rfl⟩|⟨a,b,rfl,rfl,rfl⟩
 ·have:=qw l 32 (by omega) (by omega);have c1:=hc 1 (by omega) (by omega);rw[xP a b,show (2:Nat)-1=1 from rfl];by_cases k:128<=acc l 32 1
  ·rw[if_pos ⟨hs,c1,k⟩,if_pos ⟨k,by omega,by omega⟩]
  ·rw[if_neg (fun h=>k h.2.2),if_neg (fun h=>k h.1)]
 ·have:=qw l 16 (by omega) (by omega);have c1:=hc 1 (by omega) (by omega);have c2:=hc 2 (by omega) (by omega);rw[xQ a b,show (3:Nat)-1=2 from rfl];by_cases k:2048<=acc l 16 2/\(acc l 16 2<55296\/57343<acc l 16 2)
  ·rw[if_pos ⟨hs,c1,c2,k⟩,if_pos ⟨k.1,by omega,k.2⟩]
  ·rw[if_neg (fun h=>k h.2.2.2),if_neg (fun h=>k ⟨h.1,h.2.2⟩)]
 ·have c1:=hc 1 (by omega) (by omega);have c2:=hc 2 (by omega) (by omega);have c3:=hc 3 (by omega) (by omega);rw[xR a b,show (4:Nat)-1=3 from rfl];by_cases k:65536<=acc l 8 3/\acc l 8 3<=1114111
  ·rw[if_pos ⟨hs,c1,c2,c3,k⟩,if_pos ⟨k.1,k.2,.inr (by show 57343<acc l 8 3;omega)⟩]
  ·rw[if_neg (fun h=>k h.2.2.2.2),if_neg (fun h=>k ⟨h.1,h.2.1⟩)]
theorem xS (l:List UInt8):nx l=if (fy l).2=0||!jD (fy l).1 then (0,0) else fy l:=by
 unfold fy nx;by_cases h:dc l=(65533,1)
 ·rw[if_pos h,h];rfl
 ·rw[if_neg h];have h1:=kC l;have h2:((dc l).1==65533&&(dc l).2==1)=false:=by
   cases e:((dc l).1==65533&&(dc l).2==1) with
   |false=>rfl
   |true=>exfalso;apply h;simp only[Bool.and_eq_true,beq_iff_eq] at e;exact Prod.ext e.1 e.2
  have h3:decide ((dc l).2=0)=false:=(by simp;omega);rw[h2,h3]
theorem kl (l:List UInt8) (M:Nat):acc l M 0=bt l 0 % M:=rfl
theorem kj (l:List UInt8) (M k:Nat):acc l M (k+1)=acc l M k*64+bt l (k+1) % 64:=rfl
theorem Lead.bound {l:List UInt8} {n M least:Nat} (h:Lead l n M least) (k:Nat) (hk:k<4):acc l M k<8388608:=by
 have hM:0<M/\M<=32:=by rcases h with ⟨_,_,_,rfl,_⟩|⟨_,_,_,rfl,_⟩|⟨_,_,_,rfl,_⟩<;>omega
 have:=qw l M hM.1 hM.2;obtain rfl|rfl|rfl|rfl:k=0\/k=1\/k=2\/k=3:=by omega
 all_goals omega
theorem yQ (l:List UInt8) (i j:Nat) (h:i+j<l.length):bt (l.drop i) j=(l[i+j]'h).toNat:=by unfold bt;simp[List.getD,List.getElem?_drop,aQ h]
theorem k7 {l:List UInt8} {n M least:Nat}:Lead l n M least↔(192<=bt l 0/\bt l 0<224/\n=2/\M=32/\least=128)\/(224<=bt l 0/\bt l 0<240/\n=3/\M=16/\least=2048)\/(240<=bt l 0/\bt l 0<248/\n=4/\M=8/\least=65536):=Iff.rfl
theorem uq (l:List UInt8):(fy l).1<=1114111/\(fy l).2<=4/\((fy l).1<55296\/57343<(fy l).1):=by
 unfold fy;split
 ·simp
 ·exact⟨f7 l,zW l,kE l⟩
theorem bA {l:List UInt8} {x:List Nat} (h:ch l=some x):valid l=true:=by unfold valid;rw[h];rfl
theorem bz {l:List UInt8} (h:ch l=none):valid l=false:=by unfold valid;rw[h];rfl
theorem cz {l:List UInt8} {x:List Nat} (h:ch l=some x):dB l=x:=by unfold dB;rw[h];rfl
theorem gO {l:List UInt8} (h:ch l=none):dB l=[]:=by unfold dB;rw[h];rfl
theorem dK {l:List UInt8} {x:List Nat} (h:ch l=some x) (most:Int):line l most=((low x==0)&&decide ((x.length:Int)<=most)):=by unfold line;rw[h]
theorem i9 {l:List UInt8} (h:ch l=none) (most:Int):line l most=false:=by unfold line;rw[h]
theorem nE (l:List UInt8):(dB l).length<=l.length:=by
 cases h:ch l with
 |none=>rw[gO h];simp
 |some x=>rw[cz h];exact fZ _ _ _ (aq _) h
theorem fW {l:List UInt8} (h:valid l=true):ch l=some (dB l):=by
 cases hc:ch l with
 |none=>rw[bz hc] at h;cases h
 |some x=>rw[cz hc]
theorem nY {a b:List UInt8} (ha:valid a=true) (hb:valid b=true):valid (a++b)=true/\dB (a++b)=dB a++dB b:=by have h:=mg (b:=b) (fW ha);rw[fW hb] at h;exact⟨bA h,cz h⟩
theorem eK (l:List UInt8) (j:Nat):bt l j=(l.getD j 0).toNat:=rfl
attribute [irreducible] bt acc Cont fy Lead
attribute [irreducible] valid dB line
attribute [irreducible] jD dc nx ch low At
def qG (c:Nat):List UInt8:=
 if c<128 then [UInt8.ofNat c] else if c<2048 then [UInt8.ofNat (192+c / 64),UInt8.ofNat (128+c % 64)]
 else if c<65536 then [UInt8.ofNat (224+c / 4096),UInt8.ofNat (128+c / 64 % 64),UInt8.ofNat (128+c % 64)]
 else [UInt8.ofNat (240+c / 262144),UInt8.ofNat (128+c / 4096 % 64),UInt8.ofNat (128+c / 64 % 64),UInt8.ofNat (128+c % 64)]
theorem sC (r:Int) (c:Nat) (hc:(if Utf8.valid r then r.toNat else Utf8.runeError)=c):(Utf8.encode r).data.toList=qG c:=by
 unfold Utf8.encode qG;simp only[hc];split
 ·rfl
 ·split
  ·rfl
  ·split<;>rfl
def cB (n:Nat):Prop:=n<55296\/(57343<n/\n<=1114111)
instance (n:Nat):Decidable (cB n):=by unfold cB;exact inferInstance
def enc (n:Nat):List UInt8:=if cB n then qG n else [239,191,189]
theorem rO {n:Nat} (h:cB n):Utf8.valid (n:Int)=true:=by
 unfold cB at h;unfold Utf8.valid;rw[Bool.or_eq_true,Bool.and_eq_true,Bool.and_eq_true];rcases h with h|h
 ·exact .inl ⟨bq (by omega),bq (by omega)⟩
 ·exact .inr ⟨bq (by omega),bq (by omega)⟩
theorem nf {n:Nat} (h:¬ cB n):Utf8.valid (n:Int)=false:=by
 unfold cB at h;unfold Utf8.valid;rw[Bool.or_eq_false_iff,Bool.and_eq_false_iff,Bool.and_eq_false_iff];refine⟨.inr (bF (by omega)),?_⟩;rcases Nat.lt_or_ge n 57344 with h1|h1
 ·exact .inl (bF (by omega))
 ·exact .inr (bF (by omega))
theorem bE (k:Nat) (h:k<256):(UInt8.ofNat k).toNat=k:=by rw[UInt8.toNat_ofNat'];exact Nat.mod_eq_of_lt h
theorem AN {b:Bool} (h:b=true) {x y:Nat}:(if b=true then x else y)=x:=by subst h;rfl
theorem AM {b:Bool} (h:b=false) {x y:Nat}:(if b=true then x else y)=y:=by subst h;rfl
theorem AT:qG 65533=[239,191,189]:=by decide
theorem ij {n:Nat} (h:cB n):enc n=qG n:=if_pos h
theorem mY {n:Nat} (h:¬ cB n):enc n=[239,191,189]:=if_neg h
theorem tj (n:Nat):(Utf8.encode (n:Int)).data.toList=enc n:=by
 by_cases h:cB n
 ·rw[ij h];exact sC _ _ ((AN (rO h)).trans (Int.toNat_natCast n))
 ·rw[mY h,<-AT];exact sC _ _ (AM (nf h))
theorem ec {n:Nat} (h:cB n):
 (n<128/\enc n=[UInt8.ofNat n])\/(128<=n/\n<2048/\enc n=[UInt8.ofNat (192+n / 64),UInt8.ofNat (128+n % 64)]) \/
 (2048<=n/\n<65536/\enc n=[UInt8.ofNat (224+n / 4096),UInt8.ofNat (128+n / 64 % 64),UInt8.ofNat (128+n % 64)]) \/
 (65536<=n/\n<=1114111/\enc n=[UInt8.ofNat (240+n / 262144),UInt8.ofNat (128+n / 4096 % 64),UInt8.ofNat (128+n / 64 % 64),UInt8.ofNat (128+n % 64)]):=by
 rw[ij h];unfold cB at h;unfold qG;by_cases h1:n<128
 ·left;exact⟨h1,if_pos h1⟩
 by_cases h2:n<2048
 ·right;left;exact⟨by omega,h2,by rw[if_neg h1,if_pos h2]⟩
 by_cases h3:n<65536
 ·right;right;left;exact⟨by omega,h3,by rw[if_neg h1,if_neg h2,if_pos h3]⟩
 ·right;right;right;exact⟨by omega,by omega,by rw[if_neg h1,if_neg h2,if_neg h3]⟩
theorem zV {n:Nat} (h:cB n):dc (enc n)=(n,(enc n).length):=by
 have hs:=h;unfold cB at hs;rw[vW];rcases ec h with ⟨a,e⟩|⟨a,b,e⟩|⟨a,b,e⟩|⟨a,b,e⟩<;>rw[e]
 ·have b0:bt [UInt8.ofNat n] 0=n:=(by rw[eK];exact bE _ (by omega));rw[b0];unfold decodeN;rw[if_pos a];rfl
 ·have b0:bt [UInt8.ofNat (192+n / 64),UInt8.ofNat (128+n % 64)] 0=192+n / 64:=(by rw[eK];exact bE _ (by omega));have b1:bt [UInt8.ofNat (192+n / 64),UInt8.ofNat (128+n % 64)] 1=128+n % 64:=(by rw[eK];exact bE _ (by omega));rw[b0,b1];unfold decodeN;simp only[List.length_cons,List.length_nil];rw[if_neg (by omega),if_pos (by omega),if_pos (by omega)];refine Prod.ext ?_ rfl;simp only;omega
 ·have b0:bt [UInt8.ofNat (224+n / 4096),UInt8.ofNat (128+n / 64 % 64),UInt8.ofNat (128+n % 64)] 0=224+n / 4096:=(by rw[eK];exact bE _ (by omega));have b1:bt [UInt8.ofNat (224+n / 4096),UInt8.ofNat (128+n / 64 % 64),UInt8.ofNat (128+n % 64)] 1=128+n / 64 % 64:=(by rw[eK];exact bE _ (by omega));have b2:bt [UInt8.ofNat (224+n / 4096),UInt8.ofNat (128+n / 64 % 64),UInt8.ofNat (128+n % 64)] 2=128+n % 64:=(by rw[eK];exact bE _ (by omega));rw[b0,b1,b2];unfold decodeN;simp only[List.length_cons,List.length_nil];rw[if_neg (by omega),if_neg (by omega),if_pos (by omega),if_pos (by omega)];refine Prod.ext ?_ rfl;simp only;omega
 ·have b0:bt [UInt8.ofNat (240+n / 262144),UInt8.ofNat (128+n / 4096 % 64),UInt8.ofNat (128+n / 64 % 64),UInt8.ofNat (128+n % 64)] 0=240+n / 262144:=(by rw[eK];exact bE _ (by omega));have b1:bt [UInt8.ofNat (240+n / 262144),UInt8.ofNat (128+n / 4096 % 64),UInt8.ofNat (128+n / 64 % 64),UInt8.ofNat (128+n % 64)] 1=128+n / 4096 % 64:=(by rw[eK];exact bE _ (by omega));have b2:bt [UInt8.ofNat (240+n / 262144),UInt8.ofNat (128+n / 4096 % 64),UInt8.ofNat (128+n / 64 % 64),UInt8.ofNat (128+n % 64)] 2=128+n / 64 % 64:=(by rw[eK];exact bE _ (by omega));have b3:bt [UInt8.ofNat (240+n / 262144),UInt8.ofNat (128+n / 4096 % 64),UInt8.ofNat (128+n / 64 % 64),UInt8.ofNat (128+n % 64)] 3=128+n % 64:=(by rw[eK];exact bE _ (by omega));rw[b0,b1,b2,b3];unfold decodeN;simp only[List.length_cons,List.length_nil];rw[if_neg (by omega),if_neg (by omega),if_neg (by omega),if_pos (by omega),if_pos (by omega)];refine Prod.ext ?_ rfl;simp only;omega
theorem ga {n:Nat}:1<=(enc n).length/\(enc n).length<=4:=by
 by_cases h:cB n
 ·rcases ec h with ⟨_,e⟩|⟨_,_,e⟩|⟨_,_,e⟩|⟨_,_,e⟩<;>rw[e]<;>simp
 ·rw[mY h];simp
theorem ws (n:Nat):enc n≠[]:=by intro e;have:=(ga (n:=n)).1;rw[e] at this;simp at this
theorem yU {n:Nat} (h:cB n) (hn:128<=n):2<=(enc n).length:=by rcases ec h with ⟨_,e⟩|⟨_,_,e⟩|⟨_,_,e⟩|⟨_,_,e⟩<;>first|omega|(rw[e];simp)
theorem Ag {n:Nat} (h:cB n) (hk:jD n=true):nx (enc n)=(n,(enc n).length):=by
 rw[xy,zV h,hk];have:(n==65533&&(enc n).length==1)=false:=by
  cases e:(n==65533&&(enc n).length==1) with
  |false=>rfl
  | true=>exfalso;simp only[Bool.and_eq_true,beq_iff_eq] at e;have:=yU h (by omega);omega
 simp only[this];rfl
theorem vU {n:Nat} (h:cB n) (hk:jD n=true):ch (enc n)=some [n]:=by
 have e:=Ag h hk;have:=(ga (n:=n)).1;have h2:(nx (enc n)).2≠0:=by rw[e];intro h0;simp only at h0;omega
 rw[fc (ws n) h2,e];simp only;rw[List.drop_length,fD];rfl
attribute [irreducible] enc
def flat (cs:List Nat):List UInt8:=cs.flatMap enc
theorem cH:flat []=[]:=rfl
theorem bU (a b:List Nat):flat (a++b)=flat a++flat b:=by simp[flat]
theorem dx (c:Nat):flat [c]=enc c:=by simp[flat]
attribute [irreducible] flat
end Tx
section
open Go.RowKit Tx
theorem ej {v:Nat} (h:cB v):Lib.encodeRune (v:Int)=enc v:=by
 have h0:=h;unfold cB at h0;have tu:∀ k:Nat,k.toUInt8=UInt8.ofNat k:=fun k=>rfl
 unfold Lib.encodeRune Lib.encodeRuneZ;rcases ec h with ⟨a,e⟩|⟨a,b,e⟩|⟨a,b,e⟩|⟨a,b,e⟩<;>rw[e]
 ·rw[if_pos (by omega)];simp
 ·rw[if_neg (by omega),if_pos (by omega)];simp only[List.map_cons,List.map_nil,tu];rw[show ((192:Int)+(v:Int) / 64).toNat=192+v / 64 by omega,show ((128:Int)+(v:Int) % 64).toNat=128+v % 64 by omega]
 ·rw[if_neg (by omega),if_neg (by omega),if_pos (by omega)];simp only[List.map_cons,List.map_nil,tu];rw[show ((224:Int)+(v:Int) / 4096).toNat=224+v / 4096 by omega,show ((128:Int)+(v:Int) / 64 % 64).toNat=128+v / 64 % 64 by omega,show ((128:Int)+(v:Int) % 64).toNat=128+v % 64 by omega]
 ·rw[if_neg (by omega),if_neg (by omega),if_neg (by omega),if_pos (by omega)];simp only[List.map_cons,List.map_nil,tu];rw[show ((240:Int)+(v:Int) / 262144).toNat=240+v / 262144 by omega,show ((128:Int)+(v:Int) / 4096 % 64).toNat=128+v / 4096 % 64 by omega,show ((128:Int)+(v:Int) / 64 % 64).toNat=128+v / 64 % 64 by omega,show ((128:Int)+(v:Int) % 64).toNat=128+v % 64 by omega]
theorem vY (l:List UInt8):Lib.decodeL l=dc l:=by have:=Lib.decodeL_N l;rw[this,zF]
theorem wt {l:List UInt8} (hl:l≠[]) (h:dc l≠(65533,1)):enc (dc l).1=l.take (dc l).2:=by
 have h2:=Lib.encode_decode l hl (by rw[vY];rintro ⟨a,b⟩;exact h (Prod.ext a b));rw[vY] at h2;have hs:cB (dc l).1:=by have h3:=kE l;have h4:=f7 l;unfold cB;omega
 rw[<-ej hs];exact h2
theorem gZ:∀ (n:Nat) (l:List UInt8) (cs:List Nat),l.length<=n->ch l=some cs->flat cs=l
 | n,[],cs,_,h=>by rw[fD] at h;obtain rfl:[]=cs:=Option.some.inj h;exact cH
 |0,_::_,_,h,_=>by simp at h
 | n+1,a::t,cs,hn,h=>by
   by_cases hz:(nx (a::t)).2=0
   ·rw[ky (by simp) hz] at h;cases h
   ·obtain⟨e,h1,h2⟩:=nl hz;rw[fc (by simp) hz,e] at h;have hge:=kC (a::t);cases hr:ch ((a::t).drop (dc (a::t)).2) with
    |none=>rw[hr] at h;cases h
    | some rest=>rw[hr] at h;obtain rfl:(dc (a::t)).1::rest=cs:=Option.some.inj h;have ih:=gZ n _ rest (by rw[List.length_drop];simp at hn ⊢;omega) hr;rw[show (dc (a::t)).1::rest=[(dc (a::t)).1]++rest from rfl,bU,dx,ih,wt (by simp) h1,List.take_append_drop]
theorem dp:∀ (n:Nat) (l:List UInt8) (cs:List Nat),l.length<=n->ch l=some cs->∀ c∈cs,cB c/\jD c=true
 | n,[],cs,_,h=>by rw[fD] at h;obtain rfl:[]=cs:=Option.some.inj h;intro c hc;cases hc
 |0,_::_,_,h,_=>by simp at h
 | n+1,a::t,cs,hn,h=>by
   by_cases hz:(nx (a::t)).2=0
   ·rw[ky (by simp) hz] at h;cases h
   ·obtain⟨e,h1,h2⟩:=nl hz;rw[fc (by simp) hz,e] at h;have hge:=kC (a::t);cases hr:ch ((a::t).drop (dc (a::t)).2) with
    |none=>rw[hr] at h;cases h
    | some rest=>
      rw[hr] at h;obtain rfl:(dc (a::t)).1::rest=cs:=Option.some.inj h;intro c hc;rcases List.mem_cons.1 hc with rfl|hc
      ·refine⟨?_,h2⟩;have h3:=kE (a::t);have h4:=f7 (a::t);unfold cB;omega
      ·exact dp n _ rest (by rw[List.length_drop];simp at hn ⊢;omega) hr c hc
end
section
open Tx
def sy (c:Int):Bool:=c==9||c==10||c==13||(decide (32<=c)&&decide (c<55296))||(decide (57343<c)&&decide (c<65534))||(decide (65535<c)&&decide (c<=1114111))
theorem tc (c:Nat) (h:c<=1114111) (h2:c<55296\/57343<c):sy c=jD c:=by rw[rq];unfold sy;rw[Bool.eq_iff_iff];simp;omega
end
namespace Tx
open Go.Lib
section
variable {α:Type}
end
def g7 (r:List UInt8):Prop:=∀ c∈r,c≠10/\c≠13
instance (r:List UInt8):Decidable (g7 r):=List.decidableBAll _ r
end Tx
end Go.Proofs.YtbgaglcgennhiaaGreatDoor


import Derived.WalkKit
import Derived.Lib.Hide
import Derived.Test.YtbgaglcgennhiaaGreatDoorRows
import Derived.WalkSpells
import Derived.WalkLawsBesides
import Derived.Deep.QuietTactic
import Derived.BigQuiet
import Derived.Test.YtbgaglcgennhiaaGreatDoorP01
import Derived.Laws.IdiomStrings
import Derived.Laws.Cover4
import Derived.Lib.MapLaws
import Derived.Lib.Join
import Derived.Lib.SplitLaws
section
namespace Go.Proofs.YtbgaglcgennhiaaGreatDoor
open Go.RowKit
def Bk (w:World) (g:Nat) (t:TypeId) (cs:Array Value):Prop:=w.heap[g]?=some (.cells cs t (0,0))
namespace Bk
variable {w w':World} {g:Nat} {t:TypeId} {cs:Array Value}
theorem lt (h:Bk w g t cs):g < w.heap.size:=lt_of_block h
theorem cell (h:Bk w g t cs) (i:Nat):w.cell? ⟨g,i,none⟩=cs[i]?:=cell_of_row w g i cs t (0,0) h
theorem free (h:Bk w g t cs) (i:Nat):w.frozen? ⟨g,i,none⟩=false:=by
 have e:w.heap[g]?=some (.cells cs t (0,0)):=h
 simp[World.frozen?,e]
theorem new (w:World) (t:TypeId) (cs:Array Value):Bk (w.alloc (.cells cs t)) w.heap.size t cs:=heap_alloc_new w _
theorem new1 (w:World) (o:Obj) (t:TypeId) (cs:Array Value):Bk ((w.alloc o).alloc (.cells cs t)) (w.heap.size+1) t cs:=by
 have h:=new (w.alloc o) t cs
 rwa [World.size_alloc] at h
theorem new2 (w:World) (o p:Obj) (t:TypeId) (cs:Array Value):Bk (((w.alloc o).alloc p).alloc (.cells cs t)) (w.heap.size+1+1) t cs:=by
 have h:=new ((w.alloc o).alloc p) t cs
 rwa [World.size_alloc,World.size_alloc] at h
theorem alloc (h:Bk w g t cs) (o:Obj):Bk (w.alloc o) g t cs:=(Below.heap_alloc w o g h.lt).trans h
theorem drew (h:Bk w g t cs):Bk w.drew g t cs:=h
theorem far (h:Bk w g t cs) {p:Addr} (hp:g≠p.block) (u:Value):Bk (w.setCell p u) g t cs:=(Below.heap_setCell w p u g hp).trans h
theorem put (h:Bk w g t cs) (i:Nat) (u:Value):Bk (w.setCell ⟨g,i,none⟩ u) g t (cs.setIfInBounds i u):=by
 have e:w.heap[g]?=some (.cells cs t (0,0)):=h;show (w.heap.modify g _)[g]?=_
 simp[Array.getElem?_modify,e]
theorem two {a b:Value} (h:Bk w g t #[a,b]) (u v:Value):Bk ((w.setCell ⟨g,0,none⟩ u).setCell ⟨g,1,none⟩ v) g t #[u,v]:=by
 have:=(h.put 0 u).put 1 v
 simpa using this
theorem below {B:Nat} (h:Bk w g t cs) (hb:Below B w w') (hg:g < B):Bk w' g t cs:=(hb.block g hg).trans h
end Bk
theorem aG {a b:Bool} (h:a=b):Ending.returned (.bool a)=.returned (.bool b):=by rw[h]
theorem aJ (g o i:Nat):(⟨g,o,none⟩:Addr).add i=⟨g,o+i,none⟩:=by unfold Addr.add;split<;>simp_all
theorem au (a:Addr) (i:Nat):(a.add i).block=a.block:=by unfold Addr.add;split<;>rfl
theorem jq {α:Type} {x y:List α} {k:Nat} {a b:α} (hx:x[k]?=some a) (hy:y[k]?=some b) (h:x.take k=y.take k) (hk:a=b):x.take (k+1)=y.take (k+1):=by
 rw[List.take_add_one,List.take_add_one,h,hx,hy,hk]
end Go.Proofs.YtbgaglcgennhiaaGreatDoor
end
section
namespace Go.Proofs.YtbgaglcgennhiaaGreatDoor
open Go.RowKit
theorem lw:(Tryz.prog.info? 3).map (fun i=>(i.zero,i.size,i.bytes))=some (some (.int .i64 0),1,8):=by kernel_rfl
def cr (x:List Nat):List Value:=x.map fun c=>.int .i64 (c:Nat)
theorem ni (x:List Nat):(cr x).length=x.length:=List.length_map _
theorem rM (x:List Nat) (c:Nat):cr (x++[c])=cr x++[.int .i64 (c:Nat)]:=by simp[cr]
theorem m9 (x:List Nat) (i:Nat) (h:i < x.length):(cr x)[i]?=some (.int .i64 (x.getD i 0:Nat)):=by
 simp[cr,List.getElem?_map,List.getD,List.getElem?_eq_getElem h]
theorem tH (a:Nat):(cr [a]).toArray=#[.int .i64 (a:Nat)]:=rfl
theorem ta (a b:Nat):(cr [a,b]).toArray=#[.int .i64 (a:Nat),.int .i64 (b:Nat)]:=rfl
theorem mE (x y:List Nat):cr (x++y)=cr x++cr y:=by simp[cr]
theorem ow (x:List Nat):∀ u∈cr x,u.oneCell'=true:=by
 intro u hu
 obtain⟨c,_,rfl⟩:=List.mem_map.1 hu
 rfl
attribute [irreducible] cr
def Owned (B:Nat) (w:World) (v:Value) (x:List Nat):Prop:=w.ownsRow B 3 1 v x.length (cr x)
theorem Owned.nil (B:Nat) (w:World):Owned B w (.slice none 0 0) []:=by
 unfold Owned;rw[show cr []=[] from by unfold cr;rfl];exact World.ownsRow_nil _ _ _ _
theorem Owned.below {B:Nat} {w w':World} {v:Value} {x:List Nat} (h:Owned B w v x) (hb:Below w.heap.size w w'):Owned B w' v x:=by
 have h':w.ownsRow B 3 1 v x.length (cr x):=h;refine h'.kept (w':=w') (row:=some w.heap.size) ⟨hb.os,hb.tape,hb.output,hb.size,fun i hi _=>hb.block i hi⟩ ?_;cases ho:v.ownBlock with
 | none=>exact .inl rfl
 | some g=>exact .inr (fun e=>by have:=(h'.lt g ho).2;injection e with e;omega)
def vI (B:Nat) (w:World) (x:List Nat) (c:Nat) (e:Ending) (w':World):Prop:=∃ v',e=.returned v'∧Owned B w' v' (x++[c])∧Below B w w'
theorem kC {B:Nat} {w w1:World} {v v':Value} {x:List Nat} {c:Nat} {o:Obj} (hown:Owned B w v x) (hB:B≤w.heap.size)
 (hown':w1.ownsRow B 3 1 v' (x.length+1) (cr x++[.int .i64 (c:Nat)])) (hg:(w.alloc o).grownBy w1 v.ownBlock):Owned B w1 v' (x++[c])∧Below B w w1:=by
 refine⟨by unfold Owned;rw[rM];simpa using hown',?_⟩
 exact((Below.refl B w).alloc hB o).grown hg (by simp;omega) (fun j hj=>(hown.lt j hj).1)
def Reads (B:Nat) (w:World) (v:Value) (x:List Nat):Prop :=
 ∃ A cap,v=.slice A x.length cap∧(0 < x.length→∃ ad:Addr,A=some ad∧ad.block < B∧∀ i,i < x.length→w.cell? (ad.add i)=some (.int .i64 (x.getD i 0:Nat)))
theorem Reads.below {B:Nat} {w w':World} {v:Value} {x:List Nat} (h:Reads B w v x) (hb:Below B w w'):Reads B w' v x:=by
 obtain⟨A,cap,rfl,h2⟩:=h
 refine⟨A,cap,rfl,fun h0=>?_⟩
 obtain⟨ad,rfl,hl,hc⟩:=h2 h0
 refine⟨ad,rfl,hl,fun i hi=>(hb.cell ?_).trans (hc i hi)⟩
 have:(ad.add i).block=ad.block:=by unfold Addr.add;split<;>rfl
 omega
theorem Reads.more {B C:Nat} {w:World} {v:Value} {x:List Nat} (h:Reads B w v x) (hB:B≤C):Reads C w v x:=by
 obtain⟨A,cap,rfl,h2⟩:=h
 refine⟨A,cap,rfl,fun h0=>?_⟩
 obtain⟨ad,rfl,hl,hc⟩:=h2 h0
 exact⟨ad,rfl,by omega,hc⟩
theorem Owned.reads {B:Nat} {w:World} {v:Value} {x:List Nat} (h:Owned B w v x):Reads w.heap.size w v x:=by
 have h':w.ownsRow B 3 1 v x.length (cr x):=h;rcases h'.2 with ⟨rfl,h0⟩ | ⟨g,cap,cur,rfl,_,hh,_⟩
 · exact⟨none,0,by rw[h0],fun h=>absurd h (by omega)⟩
 · refine⟨_,cap,rfl,fun h0=>⟨_,rfl,lt_of_block hh,fun i hi=>?_⟩⟩
   exact h'.cells (g:=g) rfl i _ (m9 x i hi)
theorem Reads.made (w:World) (t:TypeId) (x:List Nat) (cs:Array Value) (cap n:Nat) (hcs:(cr x).toArray=cs) (hn:x.length=n):Reads (w.heap.size+1) (w.alloc (.cells cs t)) (.slice (some ⟨w.heap.size,0,none⟩) n cap) x:=by
 subst hcs;subst hn
 refine⟨_,cap,rfl,fun _=>⟨_,rfl,Nat.lt_succ_self _,fun i hi=>?_⟩⟩
 have hb:=Bk.new w t (cr x).toArray
 have:=hb.cell i
 have e:(⟨w.heap.size,0,none⟩:Addr).add i=⟨w.heap.size,i,none⟩:=by unfold Addr.add;split<;>simp_all
 rw[e,this,List.getElem?_toArray,m9 x i hi]
end Go.Proofs.YtbgaglcgennhiaaGreatDoor
end
section
namespace Go.Proofs.YtbgaglcgennhiaaGreatDoor.Tx
open Go.Lib
def nT (c:Nat):List UInt8 :=
 if c < 128 then [UInt8.ofNat c] else if c < 2048 then [UInt8.ofNat (192+c / 64),UInt8.ofNat (128+c % 64)]
 else if c < 65536 then [UInt8.ofNat (224+c / 4096),UInt8.ofNat (128+c / 64 % 64),UInt8.ofNat (128+c % 64)]
 else [UInt8.ofNat (240+c / 262144),UInt8.ofNat (128+c / 4096 % 64),UInt8.ofNat (128+c / 64 % 64),UInt8.ofNat (128+c % 64)]
theorem p6 (r:Int) (c:Nat) (hc:(if Utf8.valid r then r.toNat else Utf8.runeError)=c):(Utf8.encode r).data.toList=nT c:=by
 unfold Utf8.encode nT;simp only[hc]
 split
 · rfl
 · split
   · rfl
   · split<;>rfl
def bR (n:Nat):Prop:=n < 55296∨(57343 < n∧n≤1114111)
instance (n:Nat):Decidable (bR n):=by unfold bR;exact inferInstance
def ai (n:Nat):List UInt8:=if bR n then nT n else [239,191,189]
theorem ot {n:Nat} (h:bR n):Utf8.valid (n:Int)=true:=by
 unfold bR at h;unfold Utf8.valid;rw[Bool.or_eq_true,Bool.and_eq_true,Bool.and_eq_true];rcases h with h | h
 · exact .inl ⟨decide_eq_true (by omega),decide_eq_true (by omega)⟩
 · exact .inr ⟨decide_eq_true (by omega),decide_eq_true (by omega)⟩
theorem lB {n:Nat} (h:¬ bR n):Utf8.valid (n:Int)=false:=by
 unfold bR at h;unfold Utf8.valid;rw[Bool.or_eq_false_iff,Bool.and_eq_false_iff,Bool.and_eq_false_iff]
 refine⟨.inr (decide_eq_false (by omega)),?_⟩
 rcases Nat.lt_or_ge n 57344 with h1 | h1
 · exact .inl (decide_eq_false (by omega))
 · exact .inr (decide_eq_false (by omega))
theorem bi (k:Nat) (h:k < 256):(UInt8.ofNat k).toNat=k:=by
 rw[UInt8.toNat_ofNat'];exact Nat.mod_eq_of_lt h
theorem wP {b:Bool} (h:b=true) {x y:Nat}:(if b=true then x else y)=x:=by subst h;rfl
theorem wK {b:Bool} (h:b=false) {x y:Nat}:(if b=true then x else y)=y:=by subst h;rfl
theorem wY:nT 65533=[239,191,189]:=by decide
theorem fT {n:Nat} (h:bR n):ai n=nT n:=if_pos h
theorem ln {n:Nat} (h:¬ bR n):ai n=[239,191,189]:=if_neg h
theorem qH (n:Nat):(Utf8.encode (n:Int)).data.toList=ai n:=by
 by_cases h:bR n
 · rw[fT h]
   exact p6 _ _ ((wP (ot h)).trans (Int.toNat_natCast n))
 · rw[ln h,← wY]
   exact p6 _ _ (wK (lB h))
theorem dq {n:Nat} (h:bR n) :
 (n < 128∧ai n=[UInt8.ofNat n])∨(128≤n∧n < 2048∧ai n=[UInt8.ofNat (192+n / 64),UInt8.ofNat (128+n % 64)]) ∨
 (2048≤n∧n < 65536∧ai n=[UInt8.ofNat (224+n / 4096),UInt8.ofNat (128+n / 64 % 64),UInt8.ofNat (128+n % 64)]) ∨
 (65536≤n∧n≤1114111∧ai n=[UInt8.ofNat (240+n / 262144),UInt8.ofNat (128+n / 4096 % 64),UInt8.ofNat (128+n / 64 % 64),UInt8.ofNat (128+n % 64)]):=by
 rw[fT h];unfold bR at h;unfold nT
 by_cases h1:n < 128
 · left;exact⟨h1,if_pos h1⟩
 by_cases h2:n < 2048
 · right;left;exact⟨by omega,h2,by rw[if_neg h1,if_pos h2]⟩
 by_cases h3:n < 65536
 · right;right;left;exact⟨by omega,h3,by rw[if_neg h1,if_neg h2,if_pos h3]⟩
 · right;right;right;exact⟨by omega,by omega,by rw[if_neg h1,if_neg h2,if_neg h3]⟩
theorem vK {n:Nat} (h:bR n):dc (ai n)=(n,(ai n).length):=by
 have hs:=h;unfold bR at hs;rw[tO];rcases dq h with ⟨a,e⟩ | ⟨a,b,e⟩ | ⟨a,b,e⟩ | ⟨a,b,e⟩<;>rw[e]
 · have b0:bt [UInt8.ofNat n] 0=n:=by rw[dL];exact bi _ (by omega)
   rw[b0];unfold decodeN;rw[if_pos a];rfl
 · have b0:bt [UInt8.ofNat (192+n / 64),UInt8.ofNat (128+n % 64)] 0=192+n / 64:=by rw[dL];exact bi _ (by omega)
   have b1:bt [UInt8.ofNat (192+n / 64),UInt8.ofNat (128+n % 64)] 1=128+n % 64:=by rw[dL];exact bi _ (by omega)
   rw[b0,b1];unfold decodeN;simp only[List.length_cons,List.length_nil];rw[if_neg (by omega),if_pos (by omega),if_pos (by omega)];refine Prod.ext ?_ rfl;simp only;omega
 · have b0:bt [UInt8.ofNat (224+n / 4096),UInt8.ofNat (128+n / 64 % 64),UInt8.ofNat (128+n % 64)] 0=224+n / 4096:=by rw[dL];exact bi _ (by omega)
   have b1:bt [UInt8.ofNat (224+n / 4096),UInt8.ofNat (128+n / 64 % 64),UInt8.ofNat (128+n % 64)] 1=128+n / 64 % 64:=by rw[dL];exact bi _ (by omega)
   have b2:bt [UInt8.ofNat (224+n / 4096),UInt8.ofNat (128+n / 64 % 64),UInt8.ofNat (128+n % 64)] 2=128+n % 64:=by rw[dL];exact bi _ (by omega)
   rw[b0,b1,b2];unfold decodeN;simp only[List.length_cons,List.length_nil];rw[if_neg (by omega),if_neg (by omega),if_pos (by omega),if_pos (by omega)];refine Prod.ext ?_ rfl;simp only;omega
 · have b0:bt [UInt8.ofNat (240+n / 262144),UInt8.ofNat (128+n / 4096 % 64),UInt8.ofNat (128+n / 64 % 64),UInt8.ofNat (128+n % 64)] 0=240+n / 262144:=by rw[dL];exact bi _ (by omega)
   have b1:bt [UInt8.ofNat (240+n / 262144),UInt8.ofNat (128+n / 4096 % 64),UInt8.ofNat (128+n / 64 % 64),UInt8.ofNat (128+n % 64)] 1=128+n / 4096 % 64:=by rw[dL];exact bi _ (by omega)
   have b2:bt [UInt8.ofNat (240+n / 262144),UInt8.ofNat (128+n / 4096 % 64),UInt8.ofNat (128+n / 64 % 64),UInt8.ofNat (128+n % 64)] 2=128+n / 64 % 64:=by rw[dL];exact bi _ (by omega)
   have b3:bt [UInt8.ofNat (240+n / 262144),UInt8.ofNat (128+n / 4096 % 64),UInt8.ofNat (128+n / 64 % 64),UInt8.ofNat (128+n % 64)] 3=128+n % 64:=by rw[dL];exact bi _ (by omega)
   rw[b0,b1,b2,b3];unfold decodeN;simp only[List.length_cons,List.length_nil];rw[if_neg (by omega),if_neg (by omega),if_neg (by omega),if_pos (by omega),if_pos (by omega)];refine Prod.ext ?_ rfl;simp only;omega
theorem eR {n:Nat}:1≤(ai n).length∧(ai n).length≤4:=by
 by_cases h:bR n
 · rcases dq h with ⟨_,e⟩ | ⟨_,_,e⟩ | ⟨_,_,e⟩ | ⟨_,_,e⟩<;>rw[e]<;>simp
 · rw[ln h];simp
theorem sz (n:Nat):ai n≠[]:=by
 intro e
 have:=(eR (n:=n)).1
 rw[e] at this;simp at this
theorem ux {n:Nat} (h:bR n) (hn:128≤n):2≤(ai n).length:=by
 rcases dq h with ⟨_,e⟩ | ⟨_,_,e⟩ | ⟨_,_,e⟩ | ⟨_,_,e⟩<;>first | omega | (rw[e];simp)
theorem vP {n:Nat} (h:bR n) (hk:g7 n=true):nx (ai n)=(n,(ai n).length):=by
 rw[sr,vK h,hk]
 have:(n==65533&&(ai n).length==1)=false:=by
  cases e:(n==65533&&(ai n).length==1) with
  | false=>rfl
  | true =>
    exfalso;simp only[Bool.and_eq_true,beq_iff_eq] at e
    have:=ux h (by omega)
    omega
 simp only[this];rfl
theorem sm {n:Nat} (h:bR n) (hk:g7 n=true):ch (ai n)=some [n]:=by
 have e:=vP h hk
 have:=(eR (n:=n)).1
 have h2:(nx (ai n)).2≠0:=by rw[e];intro h0;simp only at h0;omega
 rw[ee (sz n) h2,e];simp only;rw[List.drop_length,eJ];rfl
attribute [irreducible] ai
end Go.Proofs.YtbgaglcgennhiaaGreatDoor.Tx
end
section
namespace Go.Proofs.YtbgaglcgennhiaaGreatDoor.Tx
open Go.Lib
def flat (cs:List Nat):List UInt8:=cs.flatMap ai
theorem ci:flat []=[]:=rfl
theorem bH (a b:List Nat):flat (a++b)=flat a++flat b:=by simp[flat]
theorem cH (c:Nat):flat [c]=ai c:=by simp[flat]
attribute [irreducible] flat
end Go.Proofs.YtbgaglcgennhiaaGreatDoor.Tx
end
section
namespace Go.Proofs.YtbgaglcgennhiaaGreatDoor
open Go.RowKit Tx
theorem dz {v:Nat} (h:bR v):Lib.encodeRune (v:Int)=ai v:=by
 have h0:=h;unfold bR at h0;have tu:∀ k:Nat,k.toUInt8=UInt8.ofNat k:=fun k=>rfl
 unfold Lib.encodeRune Lib.encodeRuneZ;rcases dq h with ⟨a,e⟩ | ⟨a,b,e⟩ | ⟨a,b,e⟩ | ⟨a,b,e⟩<;>rw[e]
 · rw[if_pos (by omega)]
   simp
 · rw[if_neg (by omega),if_pos (by omega)]
   simp only[List.map_cons,List.map_nil,tu];rw[show ((192:Int)+(v:Int) / 64).toNat=192+v / 64 by omega,show ((128:Int)+(v:Int) % 64).toNat=128+v % 64 by omega]
 · rw[if_neg (by omega),if_neg (by omega),if_pos (by omega)]
   simp only[List.map_cons,List.map_nil,tu];rw[show ((224:Int)+(v:Int) / 4096).toNat=224+v / 4096 by omega,show ((128:Int)+(v:Int) / 64 % 64).toNat=128+v / 64 % 64 by omega,show ((128:Int)+(v:Int) % 64).toNat=128+v % 64 by omega]
 · rw[if_neg (by omega),if_neg (by omega),if_neg (by omega),if_pos (by omega)]
   simp only[List.map_cons,List.map_nil,tu];rw[show ((240:Int)+(v:Int) / 262144).toNat=240+v / 262144 by omega,show ((128:Int)+(v:Int) / 4096 % 64).toNat=128+v / 4096 % 64 by omega,show ((128:Int)+(v:Int) / 64 % 64).toNat=128+v / 64 % 64 by omega,show ((128:Int)+(v:Int) % 64).toNat=128+v % 64 by omega]
theorem sy (l:List UInt8):Lib.decodeL l=dc l:=by
 have:=Lib.decodeL_N l
 rw[this,vw]
theorem s7 {l:List UInt8} (hl:l≠[]) (h:dc l≠(65533,1)):ai (dc l).1=l.take (dc l).2:=by
 have h2:=Lib.encode_decode l hl (by rw[sy];rintro ⟨a,b⟩;exact h (Prod.ext a b));rw[sy] at h2;have hs:bR (dc l).1:=by
  have h3:=iV l;have h4:=fj l;unfold bR;omega
 rw[← dz hs];exact h2
theorem gf:∀ (n:Nat) (l:List UInt8) (cs:List Nat),l.length≤n→ch l=some cs→flat cs=l
 | n,[],cs,_,h=>by
   rw[eJ] at h;obtain rfl:[]=cs:=Option.some.inj h;exact ci
 | 0,_::_,_,h,_=>by simp at h
 | n+1,a::t,cs,hn,h=>by
   by_cases hz:(nx (a::t)).2=0
   · rw[iO (by simp) hz] at h;cases h
   · obtain⟨e,h1,h2⟩:=kZ hz
     rw[ee (by simp) hz,e] at h;have hge:=jA (a::t);cases hr:ch ((a::t).drop (dc (a::t)).2) with
     | none=>rw[hr] at h;cases h
     | some rest =>
       rw[hr] at h;obtain rfl:(dc (a::t)).1::rest=cs:=Option.some.inj h;have ih:=gf n _ rest (by rw[List.length_drop];simp at hn ⊢;omega) hr;rw[show (dc (a::t)).1::rest=[(dc (a::t)).1]++rest from rfl,bH,cH,ih,s7 (by simp) h1,List.take_append_drop]
theorem cB:∀ (n:Nat) (l:List UInt8) (cs:List Nat),l.length≤n→ch l=some cs→∀ c∈cs,bR c∧g7 c=true
 | n,[],cs,_,h=>by
   rw[eJ] at h;obtain rfl:[]=cs:=Option.some.inj h;intro c hc;cases hc
 | 0,_::_,_,h,_=>by simp at h
 | n+1,a::t,cs,hn,h=>by
   by_cases hz:(nx (a::t)).2=0
   · rw[iO (by simp) hz] at h;cases h
   · obtain⟨e,h1,h2⟩:=kZ hz
     rw[ee (by simp) hz,e] at h;have hge:=jA (a::t);cases hr:ch ((a::t).drop (dc (a::t)).2) with
     | none=>rw[hr] at h;cases h
     | some rest =>
       rw[hr] at h;obtain rfl:(dc (a::t)).1::rest=cs:=Option.some.inj h;intro c hc;rcases List.mem_cons.1 hc with rfl | hc
       · refine⟨?_,h2⟩
         have h3:=iV (a::t);have h4:=fj (a::t);unfold bR;omega
       · exact cB n _ rest (by rw[List.length_drop];simp at hn ⊢;omega) hr c hc
end Go.Proofs.YtbgaglcgennhiaaGreatDoor
end
section
namespace Go.Proofs.YtbgaglcgennhiaaGreatDoor
open Tx
def pQ (c:Int):Bool:=c==9||c==10||c==13||(decide (32≤c)&&decide (c < 55296))||(decide (57343 < c)&&decide (c < 65534))||(decide (65535 < c)&&decide (c≤1114111))
theorem qq (c:Nat) (h:c≤1114111) (h2:c < 55296∨57343 < c):pQ c=g7 c:=by
 rw[oQ];unfold pQ;rw[Bool.eq_iff_iff]
 simp
 omega
end Go.Proofs.YtbgaglcgennhiaaGreatDoor
end
section
namespace Go.Proofs.YtbgaglcgennhiaaGreatDoor.Tx
open Go.Lib
section
variable {α:Type}
end
end Go.Proofs.YtbgaglcgennhiaaGreatDoor.Tx
end
section
namespace Go.Proofs.YtbgaglcgennhiaaGreatDoor.Tx
open Go.Lib
def fY (r:List UInt8):Prop:=∀ c∈r,c≠10∧c≠13
instance (r:List UInt8):Decidable (fY r):=List.decidableBAll _ r
end Go.Proofs.YtbgaglcgennhiaaGreatDoor.Tx
end
section
namespace Go.Proofs.YtbgaglcgennhiaaGreatDoor.Tx
theorem tY {c:Nat} (h1:bR c) (h2:g7 c=true) (h3:32≤c):fY (ai c)∧valid (ai c)=true:=by
 refine⟨fun x hx=>?_,bg (sm h1 h2)⟩
 rcases dq h1 with ⟨a,e⟩ | ⟨a,b,e⟩ | ⟨a,b,e⟩ | ⟨a,b,e⟩
 all_goals
  rw[e] at hx;have key:∀ k,k < 256→32≤k→x=UInt8.ofNat k→x≠10∧x≠13:=fun k hk hk2 hxk=>by
   subst hxk
   have:=bi k hk
   exact⟨fun e=>by rw[e] at this;simp at this;omega,fun e=>by rw[e] at this;simp at this;omega⟩
  simp only[List.mem_cons,List.not_mem_nil,or_false] at hx
 · exact key c (by omega) h3 hx
 · rcases hx with hx | hx
   · exact key _ (by omega) (by omega) hx
   · exact key _ (by omega) (by omega) hx
 · rcases hx with hx | hx | hx
   · exact key _ (by omega) (by omega) hx
   · exact key _ (by omega) (by omega) hx
   · exact key _ (by omega) (by omega) hx
 · rcases hx with hx | hx | hx | hx
   · exact key _ (by omega) (by omega) hx
   · exact key _ (by omega) (by omega) hx
   · exact key _ (by omega) (by omega) hx
   · exact key _ (by omega) (by omega) hx
theorem iM {l:List UInt8} {most:Int} (h:line l most=true):∃ cs,ch l=some cs∧flat cs=l∧∀ c∈cs,bR c∧g7 c=true∧32≤c:=by
 cases hc:ch l with
 | none=>rw[gV hc] at h;cases h
 | some cs =>
   rw[dP hc,Bool.and_eq_true,beq_iff_eq,lg] at h
   refine⟨cs,rfl,gf _ l cs (Nat.le_refl _) hc,fun c hm=>?_⟩
   obtain⟨h1,h2⟩:=cB _ l cs (Nat.le_refl _) hc c hm
   refine⟨h1,h2,?_⟩
   rcases Nat.lt_or_ge c 32 with h3 | h3
   · have:c∈cs.filter (fun c=>decide (c < 32)):=List.mem_filter.2 ⟨hm,decide_eq_true h3⟩
     rw[List.eq_nil_of_length_eq_zero h.1] at this;cases this
   · exact h3
end Go.Proofs.YtbgaglcgennhiaaGreatDoor.Tx
end

import Derived.Test.YtbgaglcgennhiaaGreatDoorRows
import Derived.Test.YtbgaglcgennhiaaGreatDoorP02
import Derived.Test.YtbgaglcgennhiaaGreatDoorP07
import Derived.WalkKit
import Derived.WalkSpells
import Derived.WalkLawsBesides
import Derived.Laws.AppendOwn
import Derived.Laws.AppendOwnNone
import Derived.Laws.MakeOwn
import Derived.Deep.QuietTactic
import Derived.Deep.RegionWith
import Derived.BigQuiet
import Derived.Lib.Hide
import Derived.Deep.RegionLaw
section
namespace Go.Proofs.YtbgaglcgennhiaaGreatDoor
open Go.RowKit Rg
theorem iz:(Tryz.prog.info? 185).map (fun i=>(i.zero,i.size,i.bytes))=some (some (.agg #[.int .i64 0,.int .i64 0]),2,16):=by kernel_rfl
def fZ (r:R):List Value:=[.int .i64 r.1,.int .i64 r.2]
def du (l:List R):List Value:=l.flatMap fZ
theorem co:du []=[]:=rfl
theorem eb (a b:List R):du (a++b)=du a++du b:=by simp[du]
theorem kX (r:R):du [r]=[.int .i64 r.1,.int .i64 r.2]:=by simp[du,fZ]
theorem bn (r:R) (l:List R):du (r::l)=.int .i64 r.1::.int .i64 r.2::du l:=by simp[du,fZ]
theorem cz:∀ (l:List R),(du l).length=l.length*2
 | []=>rfl
 | r::l=>by rw[bn,List.length_cons,List.length_cons,cz l,List.length_cons];omega
theorem iB:∀ {l:List R} {j:Nat} {r:R},l[j]?=some r→(du l)[j*2]?=some (.int .i64 r.1)∧(du l)[j*2+1]?=some (.int .i64 r.2)
 | [],j,r,h=>by simp at h
 | a::l,0,r,h=>by
   obtain rfl:a=r:=by simpa using h
   rw[bn]
   exact⟨rfl,rfl⟩
 | a::l,j+1,r,h=>by
   have:=iB (l:=l) (j:=j) (r:=r) (by simpa using h)
   rw[bn,show (j+1)*2=j*2+1+1 by omega];simpa using this
theorem r9 (l:List R):∀ u∈du l,u.oneCell'=true:=by
 intro u hu
 obtain⟨r,_,hr⟩:=List.mem_flatMap.1 hu
 simp[fZ] at hr
 rcases hr with rfl | rfl<;>rfl
attribute [irreducible] du
theorem aQ {B:Nat} {w w':World} (h:Below B w w') (n:Nat):Below B w (w'.drewN n):=⟨h.os,h.tape,h.output,h.size,h.block⟩
def OwnR (B:Nat) (w:World) (v:Value) (l:List R):Prop:=w.ownsRow B 185 2 v l.length (du l)
theorem OwnR.nil (B:Nat) (w:World):OwnR B w (.slice none 0 0) []:=by
 unfold OwnR;rw[co];exact World.ownsRow_nil _ _ _ _
theorem OwnR.below {B:Nat} {w w':World} {v:Value} {l:List R} (h:OwnR B w v l) (hb:Below w.heap.size w w'):OwnR B w' v l:=by
 have h':w.ownsRow B 185 2 v l.length (du l):=h;refine h'.kept (w':=w') (row:=some w.heap.size) ⟨hb.os,hb.tape,hb.output,hb.size,fun i hi _=>hb.block i hi⟩ ?_;cases ho:v.ownBlock with
 | none=>exact .inl rfl
 | some g=>exact .inr (fun e=>by have:=(h'.lt g ho).2;injection e with e;omega)
theorem OwnR.slice {B:Nat} {w:World} {v:Value} {l:List R} (h:OwnR B w v l):∃ A cap,v=.slice A l.length cap:=by
 rcases h.2 with ⟨rfl,h0⟩ | ⟨g,cap,cur,rfl,_⟩
 · exact⟨none,0,by rw[h0]⟩
 · exact⟨_,_,rfl⟩
theorem OwnR.weak {B B':Nat} {w:World} {v:Value} {l:List R} (h:OwnR B w v l) (hB:B'≤B):OwnR B' w v l :=
 ⟨h.1,h.2.imp id fun ⟨g,cap,cur,h1,h2,h3⟩=>⟨g,cap,cur,h1,Nat.le_trans hB h2,h3⟩⟩
theorem OwnR.full {B:Nat} {w:World} {v:Value} {l:List R} (h:OwnR B w v l) (hl:l≠[]):∃ g cap cur,v=.slice (some ⟨g,0,none⟩) l.length cap∧B≤g∧Bk w g 185 cur∧l.length≤cap∧cap≤maxLen∧cur.size=cap*2∧cur.toList.take (l.length*2)=du l:=by
 rcases h.2 with ⟨rfl,h0⟩ | ⟨g,cap,cur,h1,h2,h3,h4,h5,h6,h7⟩
 · exact absurd (List.eq_nil_of_length_eq_zero h0) hl
 · exact⟨g,cap,cur,h1,h2,h3,h4,h5,h6,h7⟩
theorem t7 (ad:Addr) (n:Nat):ad.add (n+1)=⟨(ad.add n).block,(ad.add n).off+1,none⟩:=by
 rw[au];unfold Addr.add
 by_cases h:n=0
 · subst h
   simp
 · simp[h,Nat.add_assoc]
theorem pN:∀ {l:List R} {j:Nat} {u:Value},(du l)[j]?=some u→∃ i r,l[i]?=some r∧(j=i*2∧u=.int .i64 r.1∨j=i*2+1∧u=.int .i64 r.2)
 | [],j,u,h=>by rw[co] at h;simp at h
 | a::l,0,u,h=>by
   rw[bn] at h;simp at h
   exact⟨0,a,rfl,.inl ⟨rfl,h.symm⟩⟩
 | a::l,1,u,h=>by
   rw[bn] at h;simp at h
   exact⟨0,a,rfl,.inr ⟨rfl,h.symm⟩⟩
 | a::l,j+2,u,h=>by
   rw[bn] at h
   obtain⟨i,r,h1,h2⟩:=pN (l:=l) (j:=j) (u:=u) (by simpa using h)
   refine⟨i+1,r,by simpa using h1,?_⟩
   rcases h2 with ⟨rfl,h3⟩ | ⟨rfl,h3⟩
   · exact .inl ⟨by omega,h3⟩
   · exact .inr ⟨by omega,h3⟩
def ReadR (B:Nat) (w:World) (v:Value) (l:List R):Prop :=
 ∃ A cap,v=.slice A l.length cap∧(l.length≤cap∧cap≤maxLen∧(A=none→cap=0))∧(0 < l.length→∃ ad:Addr,A=some ad∧ad.block < B∧∀ i r,l[i]?=some r→w.cell? (ad.add (i*2))=some (.int .i64 r.1)∧w.cell? ⟨(ad.add (i*2)).block,(ad.add (i*2)).off+1,none⟩=some (.int .i64 r.2))
theorem ReadR.below {B:Nat} {w w':World} {v:Value} {l:List R} (h:ReadR B w v l) (hb:Below B w w'):ReadR B w' v l:=by
 obtain⟨A,cap,rfl,h1,h2⟩:=h
 refine⟨A,cap,rfl,h1,fun h0=>?_⟩
 obtain⟨ad,rfl,hl,hc⟩:=h2 h0
 refine⟨ad,rfl,hl,fun i r hi=>?_⟩
 have:=hc i r hi
 rw[hb.cell (by rw[au];exact hl),hb.cell (by show (ad.add (i*2)).block < B;rw[au];exact hl)];exact this
theorem ReadR.more {B C:Nat} {w:World} {v:Value} {l:List R} (h:ReadR B w v l) (hB:B≤C):ReadR C w v l:=by
 obtain⟨A,cap,rfl,h1,h2⟩:=h
 refine⟨A,cap,rfl,h1,fun h0=>?_⟩
 obtain⟨ad,rfl,hl,hc⟩:=h2 h0
 exact⟨ad,rfl,by omega,hc⟩
theorem ReadR.source {B:Nat} {w:World} {v:Value} {l:List R} (h:ReadR B w v l):(v=.slice none 0 0∧l=[])∨∃ ad cap,v=.slice (some ad) l.length cap∧∀ j u,(du l)[j]?=some u→w.cell? (ad.add j)=some u:=by
 obtain⟨A,cap,rfl,h1,h2⟩:=h
 cases A with
 | none =>
   have hl:l=[]:=List.eq_nil_of_length_eq_zero (by
    rcases Nat.eq_zero_or_pos l.length with h | h
    · exact h
    · obtain⟨ad,e,_⟩:=h2 h
      cases e)
   subst hl;rw[h1.2.2 rfl];exact .inl ⟨rfl,rfl⟩
 | some ad =>
   refine .inr ⟨ad,cap,rfl,fun j u hj=>?_⟩
   obtain⟨i,r,hi,hu⟩:=pN hj
   obtain⟨ad',e,_,hc⟩:=h2 (by have:=(List.getElem?_eq_some_iff.1 hi).1;omega)
   injection e with e;subst e
   have:=hc i r hi
   rcases hu with ⟨rfl,rfl⟩ | ⟨rfl,rfl⟩
   · exact this.1
   · rw[t7];exact this.2
theorem OwnR.reads {B:Nat} {w:World} {v:Value} {l:List R} (h:OwnR B w v l):ReadR w.heap.size w v l:=by
 have h':w.ownsRow B 185 2 v l.length (du l):=h;rcases h'.2 with ⟨rfl,h0⟩ | ⟨g,cap,cur,rfl,_,hh,hc1,hc2,_⟩
 · exact⟨none,0,by rw[h0],⟨by omega,Nat.zero_le _,fun _=>rfl⟩,fun h=>absurd h (by omega)⟩
 · refine⟨_,cap,rfl,⟨hc1,hc2,(fun e=>by cases e)⟩,fun h0=>⟨_,rfl,lt_of_block hh,fun i r hi=>?_⟩⟩
   have:=iB hi
   have h2:=h'.cells (g:=g) rfl _ _ this.2;rw[aJ] at h2
   refine⟨h'.cells (g:=g) rfl _ _ this.1,?_⟩
   rw[aJ,Nat.add_assoc];exact h2
theorem OwnR.made {w:World} {n:Nat} {cs:Array Value} {l:List R} (hn:l.length=n) (hc:cs.toList=du l) (hm:n≤maxLen):OwnR w.heap.size (w.alloc (.cells cs 185)) (.slice (Option.some ⟨w.heap.size,0,none⟩) n n) l:=by
 subst hn;have hl:=cz l
 refine⟨hl,.inr ⟨w.heap.size,_,cs,rfl,Nat.le_refl _,heap_alloc_new w _,Nat.le_refl _,hm,?_,?_⟩⟩
 · rw[← Array.length_toList,hc,hl]
 · rw[hc,← hl,List.take_length]
theorem mm {ops:Array Oper} {rest:List Oper} {o:Oper} {a:Act} {Q:Exit→Act→World→Prop} (hgd:o.guard=none) (s x:Operand) (ho:o.op=.call { callee:=.builtin .append,args:=#[s,x],argTypes:=#[166,166] })
 (B:Nat) (v:Value) (l:List R) (p q:Int) (w0:World) (hs:a.eval s=v) (hown:OwnR B w0 v l) (hx:a.eval x=.slice (Option.some ⟨w0.heap.size,0,none⟩) 1 1) (hn:l.length≤1000000000000) (hB:B≤w0.heap.size)
 (h:∀ v' w',OwnR B w' v' (l++[(p,q)])→Below B w0 w'→wpList Tryz.prog ops Q rest (a.put o.dst v') w'):wpList Tryz.prog ops Q (o::rest) a (w0.alloc (.cells #[.int .i64 p,.int .i64 q] 185)):=by
 obtain⟨i0,hi,hz0,hz1,hz2⟩:=info_parts iz
 have hown':w0.ownsRow B 185 2 v l.length (du l):=hown;refine wpList_append_own _ hgd s x 166 ho B 185 i0 _ 2 16 Tryz.underlying166 hi hz0 hz1 hz2 rfl (by decide) v l.length (du l) hs (hown'.alloc _) ⟨w0.heap.size,0,none⟩ 1 1 [.int .i64 p,.int .i64 q] hx rfl ?_ ?_ ?_ (by omega) (by simp;omega) ?_
 · intro j y hj
   rw[aJ,cell_of_row _ _ _ #[_,_] _ (0,0) (heap_alloc_new w0 _)];rw[Nat.zero_add];simpa using hj
 · intro y hy
   simp at hy;rcases hy with rfl | rfl<;>rfl
 · unfold maxLen;omega
 · intro v' w' hown2 hg _
   refine h v' w' ?_ (((Below.refl B w0).alloc hB _).grown hg (by simp;omega) (fun j hj=>(World.ownsRow.lt hown' j hj).1));unfold OwnR;rw[eb,kX,List.length_append,List.length_singleton];exact hown2
theorem mR {ops:Array Oper} {rest:List Oper} {o:Oper} {a:Act} {Q:Exit→Act→World→Prop} (hgd:o.guard=none) (s x:Operand) (ho:o.op=.call { callee:=.builtin .append,args:=#[s,x],argTypes:=#[166,166] })
 (B:Nat) (v u:Value) (l m:List R) (w0:World) (hs:a.eval s=v) (hown:OwnR B w0 v l) (hx:a.eval x=u) (hu:ReadR w0.heap.size w0 u m) (hn:l.length+m.length≤1000000000000) (hB:B≤w0.heap.size)
 (h:∀ v' w',OwnR B w' v' (l++m)→Below B w0 w'→wpList Tryz.prog ops Q rest (a.put o.dst v') w'):wpList Tryz.prog ops Q (o::rest) a w0:=by
 obtain⟨i0,hi,hz0,hz1,hz2⟩:=info_parts iz
 have hown':w0.ownsRow B 185 2 v l.length (du l):=hown;rcases hu.source with ⟨rfl,rfl⟩ | ⟨ad,cap,rfl,hc⟩
 · refine wpList_append_own_none hgd s x 166 ho B 185 i0 2 Tryz.underlying166 hi v l.length (du l) hs hown' hx (h _ _ ?_ (Below.refl _ _))
   rw[List.append_nil];exact hown
 · refine wpList_append_own _ hgd s x 166 ho B 185 i0 _ 2 16 Tryz.underlying166 hi hz0 hz1 hz2 rfl (by decide) v l.length (du l) hs hown' ad m.length cap (du m) hx (cz m) hc (r9 m) ?_ (by omega) hB ?_
   · unfold maxLen;omega
   · intro v' w' hown2 hg _
     refine h v' w' ?_ ((Below.refl B w0).grown hg hB (fun j hj=>(World.ownsRow.lt hown' j hj).1));unfold OwnR;rw[eb,List.length_append];exact hown2
theorem add_zero (a:Addr):a.add 0=a:=by simp[Addr.add]
end Go.Proofs.YtbgaglcgennhiaaGreatDoor
end
section
namespace Go.Proofs.YtbgaglcgennhiaaGreatDoor
open Rg
def am:List R:=[(65,90),(97,122),(192,214),(216,246),(248,591),(880,1327),(19968,40959)]
def ay:List R:=[(0,31),(127,160),(5760,5760),(8192,8202),(8232,8239),(8287,8287),(12288,12288),(57344,63743),(65533,65535),(917504,917631),(983040,1114111)]
def ab:List R:=[(1424,1535),(1536,1791),(64285,64335)]
def cD:List R:=[(173,173),(847,847),(6150,6150),(8203,8205),(8288,8288),(65024,65039),(65279,65279)]
end Go.Proofs.YtbgaglcgennhiaaGreatDoor
end
section
namespace Go.Proofs.YtbgaglcgennhiaaGreatDoor
open Go.RowKit Rg
def fu (f:FuncId) (l:List R):Prop:=∀ w:World,Calls Tryz.prog f #[] w fun e w'=>∃ v,e=.returned v∧OwnR w.heap.size w' v l∧Below w.heap.size w w'
theorem ff {w:World} {n:Nat} {cs:Array Value} {l:List R} (hn:l.length=n) (hc:cs.toList=du l) (hm:n≤maxLen) :
 OwnR w.heap.size (w.alloc (.cells cs 185)) (.slice (some ⟨w.heap.size,0,none⟩) n n) l∧Below w.heap.size w (w.alloc (.cells cs 185)):=⟨OwnR.made hn hc hm,(Below.refl _ w).alloc (Nat.le_refl _) _⟩
set_option maxHeartbeats 1000000 in
theorem gY:fu 190 am:=by
 intro w;go_enter Tryz.func190,Tryz.ntmps190
 go_wp2_with fail
 go_ret
 exact⟨_,rfl,ff (l:=am) rfl (by unfold am;simp only[bn,co]) (by decide)⟩
set_option maxHeartbeats 1000000 in
theorem iT:fu 201 ay:=by
 intro w;go_enter Tryz.func201,Tryz.ntmps201
 go_wp2_with fail
 go_ret
 exact⟨_,rfl,ff (l:=ay) rfl (by unfold ay;simp only[bn,co]) (by decide)⟩
set_option maxHeartbeats 1000000 in
theorem fy:fu 191 ab:=by
 intro w;go_enter Tryz.func191,Tryz.ntmps191
 go_wp2_with fail
 go_ret
 exact⟨_,rfl,ff (l:=ab) rfl (by unfold ab;simp only[bn,co]) (by decide)⟩
set_option maxHeartbeats 1000000 in
theorem sj:fu 252 cD:=by
 intro w;go_enter Tryz.func252,Tryz.ntmps252
 go_wp2_with fail
 go_ret
 exact⟨_,rfl,ff (l:=cD) rfl (by unfold cD;simp only[bn,co]) (by decide)⟩
theorem qQ {ops:Array Oper} {o:Oper} {a:Act} {K:Act→World→Prop} {Q:Exit→Act→World→Prop} {E:Prop} (hgd:o.guard=none) (s x:Operand) (ho:o.op=.call { callee:=.builtin .append,args:=#[s,x],argTypes:=#[166,166] })
 (B:Nat) (v:Value) (l:List R) (p q:Int) (w0:World) (hs:a.eval s=v) (hown:OwnR B w0 v l) (hx:a.eval x=.slice (some ⟨w0.heap.size,0,none⟩) 1 1) (hn:l.length≤1000000000000) (hB:B≤w0.heap.size)
 (h:∀ v' w',OwnR B w' v' (l++[(p,q)])→Below B w0 w'→K (a.put o.dst v') w'):if Region.wanted o (yielded ops a.tmps)=true then Oper.wp Tryz.prog o a (w0.alloc (.cells #[.int .i64 p,.int .i64 q] 185)) K Q else E:=by
 have hw:Region.wanted o (yielded ops a.tmps)=true:=by simp[Region.wanted,hgd]
 rw[if_pos hw]
 obtain⟨i0,hi,hz0,hz1,hz2⟩:=info_parts iz
 have hown':w0.ownsRow B 185 2 v l.length (du l):=hown;refine wp_append_own _ s x 166 ho B 185 i0 _ 2 16 Tryz.underlying166 hi hz0 hz1 hz2 rfl (by decide) v l.length (du l) hs (hown'.alloc _) ⟨w0.heap.size,0,none⟩ 1 1 [.int .i64 p,.int .i64 q] hx rfl ?_ ?_ ?_ (by omega) (by simp;omega) ?_
 · intro j y hj
   rw[aJ,cell_of_row _ _ _ #[_,_] _ (0,0) (heap_alloc_new w0 _)];rw[Nat.zero_add];simpa using hj
 · intro y hy
   simp at hy;rcases hy with rfl | rfl<;>rfl
 · unfold maxLen;omega
 · intro v' w' hown2 hg _
   refine h v' w' ?_ (((Below.refl B w0).alloc hB _).grown hg (by simp;omega) (fun j hj=>(World.ownsRow.lt hown' j hj).1));unfold OwnR;rw[eb,kX,List.length_append,List.length_singleton];exact hown2
set_option maxHeartbeats 4000000 in
theorem eW (g n:Nat) (l:List R) (w:World) (hk:Bk w g 3 (du l).toArray) (hn:l.length*2=n) (hl:n≤1000) :
 Calls Tryz.prog 209 #[.slice (some ⟨g,0,none⟩) n n] w fun e w'=>∃ v,e=.returned v∧OwnR w.heap.size w' v l∧Below w.heap.size w w':=by
 have HK:=Lib.hid hk;have HN:=Lib.hid hn;clear hk hn;go_enter Tryz.func209,Tryz.ntmps209
 go_wp2_with fail
 go_loopw [3,4] (fun vv i wr=>∃ (k j:Nat) (v:Value),vv=v∧k≤l.length∧j=k*2∧i=.int .i64 j∧Below w.heap.size w wr∧Hid (OwnR w.heap.size wr v (l.take k))) (fun _ i _=>n - (intOf i).toNat)
 case atStart=>exact⟨0,0,_,rfl,Nat.zero_le _,rfl,rfl,Below.refl _ _,OwnR.nil _ _⟩
 case round =>
  obtain⟨k,j,v,hv,hk,hj,rfl,bw,ho⟩:=hrel
  have hv2:=hv.symm;clear hv;subst hv2;have hsw:=bw.size;have hsl:=ho.out.slice;rw[List.length_take,Nat.min_eq_left hk] at hsl
  obtain⟨A,cap,rfl⟩:=hsl
  by_cases hlt:k < l.length
  · obtain⟨⟨p,q⟩,hr⟩:∃ r,l[k]?=some r:=⟨_,List.getElem?_eq_getElem hlt⟩
    have hp:=iB hr;have c0:=(HK.out.below bw HK.out.lt).cell j;have c1:=(HK.out.below bw HK.out.lt).cell (j+1);rw[List.getElem?_toArray,hj] at c0 c1;rw[hp.1] at c0;rw[hp.2] at c1;rw[← hj] at c0 c1;have htk:=Lib.hid (show l.take (k+1)=l.take k++[(p,q)] by rw[List.take_add_one,hr];rfl)
    obtain⟨m,hm,hmj⟩:∃ m:Nat,IntKind.i64.wrap ((j:Int)+1)=(m:Int)∧j+1=m:=⟨j+1,by have:=HN.out;rw[IntKind.wrap_i64];omega,rfl⟩
    rw[hmj] at c1;have hjn:m < n:=by have:=HN.out;omega
    have hjn2:j < n:=by omega
    have hlen:(l.take k).length≤1000:=by rw[List.length_take];have:=HN.out;omega
    have hj2:Hid (j+2=(k+1)*2):=Lib.hid (by omega);have hkl:k+1≤l.length:=hlt;have HL:=Lib.hid hlen;clear hr hp hj hlt hlen hmj
    go_wp2_with fail
    have b2:Below wr.heap.size wr wr.drew:=(Below.refl _ wr).drew;have ho2:Hid (OwnR w.heap.size wr.drew (.slice A k cap) (l.take k)):=ho.out.below b2;have hs2:w.heap.size≤wr.drew.heap.size:=hsw;have HB2:=Lib.hid b2;clear b2
    go_region_law (refine qQ rfl _ _ rfl w.heap.size (.slice A k cap) (l.take k) p q wr.drew rfl ho2.out rfl (by have:=HL.out;omega) hs2 ?_;intro v3 w3 o3 b3)
    all_goals
     have o3':Hid (OwnR w.heap.size w3 v3 (l.take (k+1))):=by unfold Hid;rw[htk.out];exact o3
     have b4:=bw.trans ((HB2.out.mono hsw).trans b3);clear o3 b3
     go_wp2_with fail
     go_roundw
     case rel=>exact⟨k+1,j+2,_,rfl,hkl,hj2.out,by go_num,b4,o3'⟩
     case measure=>simp[intOf];omega
  · have hke:k=l.length:=by omega
    have hjn:j=n:=by have:=HN.out;omega
    have ho2:Hid (OwnR w.heap.size wr (.slice A k cap) l):=by
     have h:=ho.out;rw[hke,List.take_length] at h;rw[hke];exact h
    subst hjn;clear hke hj
    go_wp2_with fail
    go_ret
    exact⟨_,rfl,ho2.out,bw⟩
end Go.Proofs.YtbgaglcgennhiaaGreatDoor
end
section
namespace Go.Proofs.YtbgaglcgennhiaaGreatDoor
open Go.RowKit Rg
theorem e7 {l:List R} {cs:Array Value} (h:cs.toList=du l):(du l).toArray=cs:=by rw[← h]
set_option maxHeartbeats 1000000 in
theorem eB:fu 175 am:=by
 intro w;have b1:Below w.heap.size w (w.alloc (.cells (du am).toArray 3)):=(Below.refl _ w).alloc (Nat.le_refl _) _;have HT:=Lib.hid (eW w.heap.size 14 am (w.alloc (.cells (du am).toArray 3)) (Bk.new w _ _) rfl (by decide));have e:(du am).toArray=#[.int .i64 65,.int .i64 90,.int .i64 97,.int .i64 122,.int .i64 192,.int .i64 214,.int .i64 216,.int .i64 246,.int .i64 248,.int .i64 591,.int .i64 880,.int .i64 1327,.int .i64 19968,.int .i64 40959]:=e7 (by unfold am;simp only[bn,co]);rw[e] at HT b1;clear e;generalize am=L at HT ⊢;go_enter Tryz.func175,Tryz.ntmps175
 go_wp2_with fail
 refine HT.out.mono ?_;rintro e w2 ⟨v,rfl,o2,b2⟩;have b3:=b1.trans (b2.mono (by simp));have o3:=Lib.hid (o2.weak (B':=w.heap.size) (by simp));clear o2 b2
 go_wp2_with fail
 go_ret
 exact⟨_,rfl,o3.out,b3⟩
set_option maxHeartbeats 1000000 in
theorem ft:fu 173 ay:=by
 intro w;have b1:Below w.heap.size w (w.alloc (.cells (du ay).toArray 3)):=(Below.refl _ w).alloc (Nat.le_refl _) _;have HT:=Lib.hid (eW w.heap.size 22 ay (w.alloc (.cells (du ay).toArray 3)) (Bk.new w _ _) rfl (by decide));have e:(du ay).toArray=#[.int .i64 0,.int .i64 31,.int .i64 127,.int .i64 160,.int .i64 5760,.int .i64 5760,.int .i64 8192,.int .i64 8202,.int .i64 8232,.int .i64 8239,.int .i64 8287,.int .i64 8287,.int .i64 12288,.int .i64 12288,.int .i64 57344,.int .i64 63743,.int .i64 65533,.int .i64 65535,.int .i64 917504,.int .i64 917631,.int .i64 983040,.int .i64 1114111]:=e7 (by unfold ay;simp only[bn,co]);rw[e] at HT b1;clear e;generalize ay=L at HT ⊢;go_enter Tryz.func173,Tryz.ntmps173
 go_wp2_with fail
 refine HT.out.mono ?_;rintro e w2 ⟨v,rfl,o2,b2⟩;have b3:=b1.trans (b2.mono (by simp));have o3:=Lib.hid (o2.weak (B':=w.heap.size) (by simp));clear o2 b2
 go_wp2_with fail
 go_ret
 exact⟨_,rfl,o3.out,b3⟩
set_option maxHeartbeats 1000000 in
theorem dQ:fu 176 ab:=by
 intro w;have b1:Below w.heap.size w (w.alloc (.cells (du ab).toArray 3)):=(Below.refl _ w).alloc (Nat.le_refl _) _;have HT:=Lib.hid (eW w.heap.size 6 ab (w.alloc (.cells (du ab).toArray 3)) (Bk.new w _ _) rfl (by decide));have e:(du ab).toArray=#[.int .i64 1424,.int .i64 1535,.int .i64 1536,.int .i64 1791,.int .i64 64285,.int .i64 64335]:=e7 (by unfold ab;simp only[bn,co]);rw[e] at HT b1;clear e;generalize ab=L at HT ⊢;go_enter Tryz.func176,Tryz.ntmps176
 go_wp2_with fail
 refine HT.out.mono ?_;rintro e w2 ⟨v,rfl,o2,b2⟩;have b3:=b1.trans (b2.mono (by simp));have o3:=Lib.hid (o2.weak (B':=w.heap.size) (by simp));clear o2 b2
 go_wp2_with fail
 go_ret
 exact⟨_,rfl,o3.out,b3⟩
set_option maxHeartbeats 1000000 in
theorem mj:fu 172 cD:=by
 intro w;have b1:Below w.heap.size w (w.alloc (.cells (du cD).toArray 3)):=(Below.refl _ w).alloc (Nat.le_refl _) _;have HT:=Lib.hid (eW w.heap.size 14 cD (w.alloc (.cells (du cD).toArray 3)) (Bk.new w _ _) rfl (by decide));have e:(du cD).toArray=#[.int .i64 173,.int .i64 173,.int .i64 847,.int .i64 847,.int .i64 6150,.int .i64 6150,.int .i64 8203,.int .i64 8205,.int .i64 8288,.int .i64 8288,.int .i64 65024,.int .i64 65039,.int .i64 65279,.int .i64 65279]:=e7 (by unfold cD;simp only[bn,co]);rw[e] at HT b1;clear e;generalize cD=L at HT ⊢;go_enter Tryz.func172,Tryz.ntmps172
 go_wp2_with fail
 refine HT.out.mono ?_;rintro e w2 ⟨v,rfl,o2,b2⟩;have b3:=b1.trans (b2.mono (by simp));have o3:=Lib.hid (o2.weak (B':=w.heap.size) (by simp));clear o2 b2
 go_wp2_with fail
 go_ret
 exact⟨_,rfl,o3.out,b3⟩
end Go.Proofs.YtbgaglcgennhiaaGreatDoor
end

import Derived.Test.YtbgaglcgennhiaaGreatDoorQ10
import Derived.Laws.EntriesVeiled
import Derived.Deep.RegionHeld3
set_option maxHeartbeats 4000000
set_option maxRecDepth 100000
namespace Go.Proofs.YtbgaglcgennhiaaGreatDoor
section
open Go.RowKit Rg Tx
theorem dt {ops:Array Oper} {rest:List Oper} {o:Oper} {a:Act} {Q:Exit->Act->World->Prop} (hgd:o.guard=none) (s x:Operand) (ho:o.op=.call { callee:=.builtin .append,args:=#[s,x],argTypes:=#[56,56] })
 (B:Nat) (v:Value) (l y:List Nat) (cs:Array Value) (n:Nat) (w0:World) (hcs:cs.toList=cV y) (hn:y.length=n) (hs:a.eval s=v) (hown:Owned B w0 v l) (hx:a.eval x=.slice (some ⟨w0.heap.size,0,none⟩) n n) (hl:l.length+y.length<=2000000000000) (hB:B<=w0.heap.size)
 (h:∀ v' w',Owned B w' v' (l++y)->Below B w0 w'->wpList Tryz.prog ops Q rest (a.put o.dst v') w'):wpList Tryz.prog ops Q (o::rest) a (w0.alloc (.cells cs 3)):=by
 subst hn;obtain⟨i0,hi,hz0,hz1,hz2⟩:=info_parts nd;have hown':w0.ownsRow B 3 1 v l.length (cV l):=hown;refine wpList_append_own _ hgd s x 56 ho B 3 i0 _ 1 8 Tryz.underlying56 hi hz0 hz1 hz2 rfl (by decide) v l.length (cV l) hs (hown'.alloc _) ⟨w0.heap.size,0,none⟩ y.length y.length (cV y) hx ?_ ?_ ?_ ?_ (by omega) (by simp;omega) ?_
 ·rw[oW,Nat.mul_one]
 ·intro j u hj;rw[aS,cell_of_row _ _ _ cs _ (0,0) (heap_alloc_new w0 _)];rw[Nat.zero_add,<-Array.getElem?_toList,hcs];exact hj
 ·exact q8 y
 ·unfold maxLen;omega
 ·intro v' w' hown2 hg _;refine h v' w' ?_ (((Below.refl B w0).alloc hB _).grown hg (by simp;omega) (fun j hj=>(World.ownsRow.lt hown' j hj).1));unfold Owned;rw[oU,de];exact hown2
theorem eV (a:Nat):(#[.int .i64 (a:Nat)]:Array Value).toList=cV [a]:=by rw[<-wO]
theorem oX (a b:Nat):(#[.int .i64 (a:Nat),.int .i64 (b:Nat)]:Array Value).toList=cV [a,b]:=by rw[<-wP]
theorem uI (w:World):Adds w (.func (.func 213) #[] #[]) (fun c=>[c]):=by
 refine⟨_,_,rfl,enters_of Tryz.func213 (by kernel_rfl) rfl,fun B c d x W _ _ hB ho hx hc=>?_⟩;show Calls Tryz.prog 213 #[d,.int .i64 c] W _;have HO:=aa ho;obtain⟨A,cap,rfl⟩:=ho.slice;have hcs:=aa (eV c);obtain⟨z,hz⟩:∃ z:Int,(c:Int)=z:=⟨_,rfl⟩;rw[hz] at hcs ⊢;clear ho hz hc;go_enter Tryz.func213,Tryz.ntmps213;go_wp2_with (at_builtin;refine dt rfl _ _ rfl B (.slice A x.length cap) x [c] _ 1 W hcs.out rfl rfl HO.out rfl (by simp;omega) hB ?_)
 intro v' w' o2 b2;have O2:=aa o2;obtain⟨A2,cap2,rfl⟩:=o2.slice;clear o2;go_wp2_with fail
 go_ret;exact⟨_,rfl,O2.out,b2⟩
theorem lE (w:World):Adds w (.func (.func 194) #[] #[]) Pr.small:=by
 refine⟨_,_,rfl,enters_of Tryz.func194 (by kernel_rfl) rfl,fun B c d x W _ _ hB ho hx hc=>?_⟩;show Calls Tryz.prog 194 #[d,.int .i64 c] W _;have HO:=aa ho;obtain⟨A,cap,rfl⟩:=ho.slice;clear ho;by_cases h0:c=223
 ·have HF:=aa (show Pr.small c=[115,115] by unfold Pr.small;rw[if_pos h0]);have hcs:=aa (oX 115 115);subst h0;clear hc;go_enter Tryz.func194,Tryz.ntmps194;(go_wp2_with (at_builtin;refine dt rfl _ _ rfl B (.slice A x.length cap) x [115,115] _ 2 W hcs.out rfl rfl HO.out rfl (by simp;omega) hB ?_));intro v' w' o2 b2;have O2:=aa o2;obtain⟨A2,cap2,rfl⟩:=o2.slice;clear o2;(go_wp2_with fail);go_ret;exact⟨_,rfl,by rw[HF.out];exact O2.out,b2⟩
 ·cases hcap:Pr.capital c with
  | true=>
    have HF:=aa (show Pr.small c=[c+32] by unfold Pr.small;rw[if_neg h0,hcap];rfl);have hcs:=aa (eV (c+32));have h3:=Pr.capital_iff.1 hcap;obtain⟨z,hz⟩:∃ z:Int,(c:Int)=z:=⟨_,rfl⟩;have e1:((c+32:Nat):Int)=z+32:=(by omega);rw[e1] at hcs;have g0:(z==223)=false:=(by simp;omega);have hz1:z<=1114111:=(by omega);have hz0:0<=z:=(by omega);rw[hz];rcases(show (decide (65<=z)=true/\decide (z<=90)=true)\/(decide (z<=90)=false/\decide (65<=z)=true/\decide (192<=z)=true/\decide (z<=222)=true/\(z != 215)=true) by simp only[decide_eq_true_eq,decide_eq_false_iff_not,bne_iff_ne];omega) with ⟨g1,g2⟩|⟨g2,g1,g3,g4,g5⟩
    all_goals
     clear hcap h3 h0 hz e1 hc;go_enter Tryz.func194,Tryz.ntmps194;(go_wp2_with (at_builtin;refine dt rfl _ _ rfl B (.slice A x.length cap) x [c+32] _ 1 W hcs.out rfl rfl HO.out rfl (by simp;omega) hB ?_));intro v' w' o2 b2;have O2:=aa o2;obtain⟨A2,cap2,rfl⟩:=o2.slice;clear o2;(go_wp2_with fail);go_ret;exact⟨_,rfl,by rw[HF.out];exact O2.out,b2⟩
  | false=>
    have HF:=aa (show Pr.small c=[c] by unfold Pr.small;rw[if_neg h0,hcap];rfl);have hcs:=aa (eV c);have h3:¬(65<=c/\c<=90\/192<=c/\c<=222/\c≠215):=(fun h=>by rw[Pr.capital_iff.2 h] at hcap;cases hcap);obtain⟨z,hz⟩:∃ z:Int,(c:Int)=z:=⟨_,rfl⟩;rw[hz] at hcs ⊢;have g0:(z==223)=false:=(by simp;omega);rcases(show (decide (65<=z)=false/\decide (192<=z)=false)\/(decide (65<=z)=true/\decide (z<=90)=false/\decide (192<=z)=false)\/(decide (65<=z)=true/\decide (z<=90)=false/\decide (192<=z)=true/\decide (z<=222)=false)\/(decide (65<=z)=true/\decide (z<=90)=false/\decide (192<=z)=true/\decide (z<=222)=true/\(z != 215)=false) by simp only[decide_eq_true_eq,decide_eq_false_iff_not,bne_eq_false_iff_eq];omega) with ⟨g1,g2⟩|⟨g1,g2,g3⟩|⟨g1,g2,g3,g4⟩|⟨g1,g2,g3,g4,g5⟩
    all_goals
     clear hcap h3 h0 hz hc;go_enter Tryz.func194,Tryz.ntmps194;(go_wp2_with (at_builtin;refine dt rfl _ _ rfl B (.slice A x.length cap) x [c] _ 1 W hcs.out rfl rfl HO.out rfl (by simp;omega) hB ?_));intro v' w' o2 b2;have O2:=aa o2;obtain⟨A2,cap2,rfl⟩:=o2.slice;clear o2;(go_wp2_with fail);go_ret;exact⟨_,rfl,by rw[HF.out];exact O2.out,b2⟩
theorem tC (g a:Nat) (vg va:Value) (q:Nat->Bool) (f:Nat->List Nat) (w0:World) (hq:Asks w0 vg q) (hp:Adds w0 va f) (B c:Nat) (d:Value) (x:List Nat) (W:World) (hW:Below w0.heap.size w0 W) (h1:w0.heap.size<=B) (hB:B<=W.heap.size)
 (hg:W.cell? ⟨g,0,none⟩=some vg) (ha:W.cell? ⟨a,0,none⟩=some va) (halt:a<w0.heap.size) (ho:Owned B W d x) (hx:x.length<=1000000000000) (hc:c<=1114111):
 Calls Tryz.prog 253 #[d,.int .i64 c,.pointer (some ⟨g,0,none⟩),.pointer (some ⟨a,0,none⟩)] W fun e w'=>∃ d',e=.returned d'/\Owned B w' d' (x++if q c then [] else f c)/\Below B W w':=by
 obtain⟨G,gb,rfl,eg,hq⟩:=hq;obtain⟨F,fb,rfl,ef,hp⟩:=hp;have HQ:=aa (hq c W hW);have HP:=aa (fun W2 (b2:Below W.heap.size W W2) (o2:Owned B W2 d x)=>hp B c d x W2 (hW.trans (b2.mono hW.size)) h1 (co hB b2.size) o2 hx hc);have HO:=aa ho;have HA:=aa (fun W2 (b2:Below W.heap.size W W2)=>(b2.cell (p:=⟨a,0,none⟩) (Nat.lt_of_lt_of_le halt hW.size)).trans ha);obtain⟨A,cap,rfl⟩:=ho.slice;clear hq hp ho;cases hqc:q c with
 | true=>have h0:=aa (show x++(if q c then [] else f c)=x by rw[hqc];simp);rw[hqc] at HQ;clear hqc ha;go_enter Tryz.func253,Tryz.ntmps253;(go_wp2_with fail);refine HQ.out.mono ?_;rintro e w2 ⟨rfl,b2⟩;have O2:=aa (HO.out.below b2);have b3:=b2.mono hB;clear b2;(go_wp2_with fail);go_ret;exact⟨_,rfl,by simpa using O2.out,b3⟩
 | false=>rw[hqc] at HQ;clear hqc ha;go_enter Tryz.func253,Tryz.ntmps253;(go_wp2_with fail);refine HQ.out.mono ?_;rintro e w2 ⟨rfl,b2⟩;have O2:=aa (HO.out.below b2);have b3:=b2.mono hB;have a2:=HA.out w2 b2;have HN:=aa (HP.out w2 b2 O2.out);clear b2;(go_wp2_with fail);refine HN.out.mono ?_;rintro e w4 ⟨d4,rfl,o4,b4⟩;have O4:=aa o4;obtain⟨A4,cap4,hd4⟩:=o4.slice;have b5:=b3.trans b4;subst hd4;clear o4 b4;(go_wp2_with fail);go_ret;exact⟨_,rfl,by simpa using O4.out,b5⟩
theorem wT (u:Value) (f:Nat->List Nat) (w:World) (hp:Adds w u f):
 Calls Tryz.prog 225 #[u] w fun e w'=>∃ v,e=.returned v/\Adds w' v (fun c=>if Pr.gone c then [] else f c)/\Below w.heap.size w w':=by
 have hb1:Below w.heap.size w (w.alloc (.cells #[u] 179)):=(Below.refl _ w).alloc (aq _) _;have HK:=aa (Bk.new w 179 #[u]);have HG:=aa (wD (w.alloc (.cells #[u] 179)));have HW:=aa (fun v W (h:OwnR (w.heap.size+1) W v dq)=>dQ v dq W h.reads (by simp[dq]));have HP:=aa hp;have eg:Hid (∀ args W,(callFunc 253 args).run Tryz.prog W=.ok (.enter 253 args) W):=enters_of Tryz.func253 (by kernel_rfl) rfl;have HB1:=aa hb1;obtain⟨F,cb,rfl,_,_⟩:=hp;clear hb1;go_enter Tryz.func225,Tryz.ntmps225;go_wp2_with fail
 refine HG.out.mono ?_;rintro e w2 ⟨v2,rfl,o2,b2⟩;rw[World.size_alloc] at o2;have O2:=aa o2;have B2:=aa (HB1.out.trans (b2.mono (by simp)));have K2:=aa (HK.out.below b2 (by simp));obtain⟨A2,c2,hv2⟩:=o2.slice;subst hv2;clear o2 b2;go_wp2_with fail
 refine(HW.out _ _ O2.out).mono ?_;rintro e w3 ⟨v3,rfl,q3,b3⟩;have B3:=aa (B2.out.trans (b3.mono B2.out.size));have K3:=aa (K2.out.below b3 K2.out.lt);have Q3:=aa q3;obtain⟨G,gb,rfl,_,_⟩:=q3;obtain⟨w4,hw4⟩:=ac (w3.alloc (.cells #[.func (.func G) #[] gb] 147));have hb4:Below w3.heap.size w3 w4:=by rw[<-hw4];exact(Below.refl _ w3).alloc (aq _) _
 have hk4:Bk w4 w3.heap.size 147 #[.func (.func G) #[] gb]:=by rw[<-hw4];exact Bk.new w3 _ _
 have hs4:w4.heap.size=w3.heap.size+1:=by rw[<-hw4,World.size_alloc]
 have HF:Hid (Adds w4 (.func (.func 253) #[] #[.pointer (some ⟨w3.heap.size,0,none⟩),.pointer (some ⟨w.heap.size,0,none⟩)]) (fun c=>if Pr.gone c then [] else f c)):=by refine⟨_,_,rfl,eg.out,fun B c d x W hW h1 hB ho hx hc=>?_⟩;have hk5:=(K3.out.below hb4 K3.out.lt).below hW (by have:=K3.out.lt;omega);exact tC w3.heap.size w.heap.size _ _ _ f _ (Q3.out.below hb4) ((HP.out.below B3.out).below hb4) B c d x W hW h1 hB ((hk4.below hW (by omega)).cell 0) (hk5.cell 0) (by have:=K3.out.lt;omega) ho hx hc
 have HB4:=aa (B3.out.trans (hb4.mono B3.out.size));have HW4:=aa hw4;clear hb4 hk4 b3 hw4 hs4;go_wp2_with fail
 go_ret;exact⟨_,rfl,by have h:=HF.out;rw[<-HW4.out] at h;exact h,by have h:=HB4.out;rw[<-HW4.out] at h;exact h⟩
def OwnB (B:Nat) (w:World) (v:Value) (l:List UInt8):Prop:=w.ownsRow B 5 1 v l.length (Lib.byteCells l)
theorem OwnB.nil (B:Nat) (w:World):OwnB B w (.slice none 0 0) []:=World.ownsRow_nil _ _ _ _
theorem OwnB.slice {B:Nat} {w:World} {v:Value} {l:List UInt8} (h:OwnB B w v l):∃ A cap,v=.slice A l.length cap:=by
 rcases h.2 with ⟨rfl,h0⟩|⟨g,cap,cur,rfl,_⟩
 ·exact⟨none,0,by rw[h0]⟩
 ·exact⟨_,_,rfl⟩
theorem li:∀ (p:List UInt8) (r:ByteArray),((p.map fun c:UInt8=>(c.toNat:Int)).foldl (fun r n=>r.push (UInt8.ofNat n.toNat)) r)=⟨(r.data.toList++p).toArray⟩
 |[],r=>by simp
 | c::t,r=>by rw[List.map_cons,List.foldl_cons,li t];have:(r.push (UInt8.ofNat ((c.toNat:Int)).toNat)).data.toList=r.data.toList++[c]:=(by show (r.data.push _).toList=_;rw[Array.toList_push];simp);rw[this];simp
theorem OwnB.text {P:Program} {tb ts te:TypeId} (hb:P.underlying tb=some (.slice te)) (he:P.underlying te=some (.int .u8)) (hs:P.underlying ts=some .string) {B:Nat} {W:World} {v:Value} {p:List UInt8} (h:OwnB B W v p):
 (convert tb ts v).run P W=.ok (.string ⟨p.toArray⟩) W:=by
 have h':W.ownsRow B 5 1 v p.length (Lib.byteCells p):=h;rcases h'.2 with ⟨rfl,h0⟩|⟨g,cap,cur,rfl,_⟩
 ·obtain rfl:p=[]:=List.eq_nil_of_length_eq_zero h0;rw[run_convert_bytes_string _ tb ts te _ _ _ hb he hs];simp[Conv.bytesToString];rfl
 ·rw[run_convert_bytes_string _ tb ts te _ _ _ hb he hs];have hl:=run_loadCells_list (P:=P) (w:=W) ⟨g,0,none⟩ (Lib.byteCells p) (fun j u hj=>h'.cells (g:=g) rfl j u hj);rw[Lib.byteCells_length] at hl;have:=run_bytesToString (P:=P) W ⟨g,0,none⟩ p.length cap (p.map fun c:UInt8=>(c.toNat:Int)) (by rw[hl,List.map_map];rfl);rw[this,li]
  congr 3
theorem oF (B c:Nat) (d:Value) (l:List UInt8) (W:World) (hB:B<=W.heap.size) (ho:OwnB B W d l) (hl:l.length<=1000000000000) (hc:cB c):
 Calls Tryz.prog 229 #[d,.int .i64 c] W fun e w'=>∃ d',e=.returned d'/\OwnB B w' d' (l++enc c)/\Below B W w':=by
 have hc1:c<=1114111:=by unfold cB at hc;omega
 have HA:=aa (Tryz.utf8_AppendRune_plain B d l.length (Lib.byteCells l) (c:Int) (by omega) (by omega) W ho (by omega) hB);have HE:=aa (show Lib.byteCells l++Lib.runeCells (c:Int)=Lib.byteCells (l++enc c) by rw[Lib.byteCells_append,<-ej hc,Lib.byteCells_encodeRune]);have HN:=aa (show l.length+(Lib.runeCells (c:Int)).length=(l++enc c).length by rw[de,<-ej hc,Lib.runeCells_length]);have HW:Hid (∀ j,d.ownBlock=some j->B<=j):=fun j hj=>(World.ownsRow.lt ho j hj).1
 obtain⟨A,cap,hd⟩:=ho.slice;obtain⟨z,hz⟩:∃ z:Int,(c:Int)=z:=⟨_,rfl⟩;have z0:0<=z:=by omega
 have z1:z<=1114111:=by omega
 rw[hz] at HA HE HN ⊢;subst hd;clear hz ho hc hc1;go_enter Tryz.func229,Tryz.ntmps229;go_wp2_with (go_at_call 255;refine HA.out.mono ?_)
 rintro e w2 ⟨v',rfl,hown',o,hgrow⟩;rw[HE.out,HN.out] at hown';have O2:Hid (OwnB B w2 v' (l++enc c)):=hown';have B2:Hid (Below B W w2):=((Below.refl B W).alloc hB o).grown hgrow (by simp;omega) HW.out;obtain⟨A2,cap2,hv2⟩:=O2.out.slice;obtain⟨n2,hn2⟩:=ac ((l++enc c).length);rw[hn2] at hv2;subst hv2;clear hown' hgrow hn2;go_wp2_with fail
 go_ret;exact⟨_,rfl,O2.out,B2.out⟩
theorem mn {x:List Nat} {k:Nat} (h:k<x.length):flat (x.take (k+1))=flat (x.take k)++enc (x.getD k 0):=by rw[List.take_add_one,aQ h,List.getD,aQ h,Option.toList_some,bU,dx,Option.getD_some]
theorem kK:∀ x:List Nat,(flat x).length<=4*x.length
 |[]=>by rw[cH];simp
 | c::x=>by have ih:=kK x;have:=(ga (n:=c)).2;rw[show c::x=[c]++x from rfl,bU,dx,de,de,List.length_singleton];omega
theorem s9 (v:Value) (x:List Nat) (w:World) (hv:Reads w.heap.size w v x) (hl:x.length<=100000000000) (hx0:∀ c∈x,cB c):
 Calls Tryz.prog 228 #[v,.func (.func 229) #[] #[]] w fun e w'=>∃ d,e=.returned d/\OwnB w.heap.size w' d (flat x)/\Below w.heap.size w w':=by
 obtain⟨A,cap,rfl,hx⟩:=hv;have HX:=aa hx;have HL:=aa (fun k=>kK (x.take k));have H0:=aa hx0;clear hx hx0;go_enter Tryz.func228,Tryz.ntmps228;go_wp2_with fail
 go_loopw [5,10] (fun vv i wr=>∃ (k:Nat) (d:Value),vv=d/\k<=x.length/\i=.int .i64 k/\Below w.heap.size w wr/\Hid (OwnB w.heap.size wr d (flat (x.take k)))) (fun _ i _=>x.length-(intOf i).toNat)
 case atStart=>exact⟨0,_,rfl,bI _,rfl,aE _ _,by unfold Hid;rw[List.take_zero,cH];exact OwnB.nil _ _⟩
 case round=>
  obtain⟨k,d,hd,hk,rfl,hb,ho⟩:=hrel;have hd2:=hd.symm;clear hd;subst hd2;have hsw:=hb.size;by_cases hlt:k<x.length
  ·obtain⟨ad,rfl,hlb,hc⟩:=HX.out (by omega);have c0:=hc k hlt;rw[<-hb.cell (p:=ad.add k) (by rw[aC];omega)] at c0;obtain⟨c,hcx⟩:=ac (x.getD k 0);have hcm:cB c:=H0.out c (by rw[<-hcx,List.getD,aQ hlt];exact List.getElem_mem hlt);have htk:=aa (mn hlt);rw[hcx] at c0 htk;have hlen:=HL.out k;rw[dL] at hlen;have HN:=aa (oF w.heap.size c d _ wr hsw ho.out (by omega) hcm);obtain⟨A2,c2,rfl⟩:=ho.out.slice;obtain⟨n2,hn2⟩:=ac ((flat (x.take k)).length);rw[hn2] at HN;rw[hn2];clear hc hcx hlen hn2 ho hcm;(go_wp2_with (go_at_call 229;refine HN.out.mono ?_));rintro e w2 ⟨d2,rfl,o2,b2⟩;have hb2:Below w.heap.size w w2:=hb.trans b2;have o3:Hid (OwnB w.heap.size w2 d2 (flat (x.take (k+1)))):=(by unfold Hid;rw[htk.out];exact o2);clear b2 o2 htk HN;(go_wp2_with fail);go_roundw;case rel=>exact⟨k+1,_,rfl,by omega,by go_num,hb2,o3⟩
   case measure=>simp[intOf];omega
  ·have hke:k=x.length:=(by omega);have ho2:Hid (OwnB w.heap.size wr d (flat x)):=(by have:=ho.out;rw[hke,List.take_length] at this;exact this);clear hke;(go_wp2_with fail);go_ret;exact⟨_,rfl,ho2.out,hb⟩
theorem Reads.cells {B:Nat} {w:World} {A:Option Addr} {n cap:Nat} {x:List Nat} (h:Reads B w (.slice A n cap) x):n=x.length/\(0<x.length->∃ ad:Addr,A=some ad/\ad.block<B/\∀ i,i<x.length->w.cell? (ad.add i)=some (.int .i64 (x.getD i 0:Nat))):=by obtain⟨A',cap',e,h2⟩:=h;injection e with e1 e2 e3;subst e1;exact⟨e2,h2⟩
theorem mG {x:List Nat} (h:x.any Pr.rl=false):Pr.wayB x=true:=by unfold Pr.wayB;rw[h];rfl
theorem mH {x:List Nat} (h:x.any Pr.rl=true):Pr.wayB x=(Pr.rl (x.headD 0)&&Pr.rl (x.getLastD 0)&&!(x.any Pr.letter)):=by unfold Pr.wayB;rw[h];rfl
theorem mp (x:List Nat):x.headD 0=x.getD 0 0:=by cases x<;>rfl
theorem mr (x:List Nat):x.getLastD 0=x.getD (x.length-1) 0:=by rw[List.getLastD_eq_getLast?,List.getLast?_eq_getElem?,List.getD]
theorem ss {x:List Nat} {p:Nat->Bool} (h:x.any p=true):0<x.length:=by
 cases x with
 |nil=>simp at h
 |cons=>simp
theorem rt (v:Value) (x:List Nat) (w:World) (hv:Reads w.heap.size w v x) (hl:x.length<=100000000000):
 Calls Tryz.prog 227 #[v] w fun e w'=>e=.returned (.bool (Pr.wayB x))/\Below w.heap.size w w':=by
 have HR:=aa (gy w);have HT:=aa (fun W=>jA W);have HW1:=aa (fun v W (h:OwnR w.heap.size W v ag)=>dQ v ag W h.reads (by simp[ag]));have HW2:=aa (fun (B:Nat) v W (h:OwnR B W v au)=>dQ v au W h.reads (by simp[au]));have HC:=aa (fun u p W (h:Below w.heap.size w W) (hq:Asks W u p)=>eS v u x p W ((hv.below h).more h.size) (by omega) hq);have HV:=aa hv;obtain⟨A,cap,rfl,-⟩:=hv;go_enter Tryz.func227,Tryz.ntmps227;go_wp2_with fail
 refine HR.out.mono ?_;rintro e w1 ⟨v1,rfl,o1,b1⟩;have O1:=aa o1;obtain⟨A1,c1,rfl⟩:=o1.slice;clear o1;go_wp2_with fail
 refine(HW1.out _ _ O1.out).mono ?_;rintro e w2 ⟨v2,rfl,q2,b2⟩;have B2:=aa (b1.trans (b2.mono b1.size));have Q2:=aa q2;obtain⟨G,gb,rfl,eg,-⟩:=q2;clear b1 b2;go_wp2_with fail
 refine(HT.out w2).mono ?_;rintro e w3 ⟨v3,rfl,o3,b3⟩;have B3:=aa (B2.out.trans (b3.mono B2.out.size));have Q3:=aa (Q2.out.below b3);have O3:=aa o3;obtain⟨A3,c3,rfl⟩:=o3.slice;clear o3 b3;go_wp2_with fail
 refine(HW2.out _ _ _ O3.out).mono ?_;rintro e w4 ⟨v4,rfl,q4,b4⟩;have B4:=aa (B3.out.trans (b4.mono B3.out.size));have Q4:=aa (Q3.out.below b4);have L4:=aa q4;obtain⟨H,hb,rfl,eh,-⟩:=q4;have C4:=aa (HC.out _ _ w4 B4.out Q4.out);obtain⟨ba,hba⟩:∃ ba,x.any (fun c=>bO ag c)=ba:=⟨_,rfl⟩;rw[hba] at C4;have HBA:=aa hba;clear b4 hba;go_wp2_with fail
 refine C4.out.mono ?_;rintro e w5 ⟨rfl,b5⟩;have ha0:=HBA.out;cases ba with
 | false=>have ha:=ha0;have hf:=aa (mG ha);clear ha0;have B5:=aa (B4.out.trans (b5.mono B4.out.size));clear ha b5;(go_wp2_with fail);go_ret;exact⟨aV hf.out.symm,B5.out⟩
 | true=>
   have ha:=ha0;have hf:=aa (mH ha);clear ha0;have hpos:=ss ha;have B5:=aa (B4.out.trans (b5.mono B4.out.size));have Q5:=aa (Q4.out.below b5);have L5:=aa (L4.out.below b5);rw[mp,mr] at hf;obtain⟨-,hx⟩:=((HV.out.below B5.out)).cells;obtain⟨ad,rfl,hlb,hc⟩:=hx hpos;have d0:=hc 0 hpos;rw[add_zero] at d0;obtain⟨m,hm⟩:∃ m,x.length=m+1:=⟨x.length-1,by omega⟩;have d1:=hc m (by omega);rw[show x.length-1=m by omega] at hf;obtain⟨p,hp⟩:=ac (x.getD 0 0);obtain⟨q,hq⟩:=ac (x.getD m 0);rw[hp] at d0;rw[hq] at d1;rw[hp,hq] at hf;obtain⟨_,_,e1,-,hQ⟩:=Q5.out;injection e1 with e1 _ e2;injection e1 with e1;subst e1;subst e2;have HP:=aa (hQ p w5 (aE _ _));have HQ:=aa (fun W (h:Below w5.heap.size w5 W)=>hQ q W h);dsimp only at HP HQ;have D1:=aa (fun W (h:Below w5.heap.size w5 W)=>(h.cell (p:=ad.add m) (by rw[aC];have:=B5.out.size;omega)).trans d1);have HL:=aa (fun W (h:Below w5.heap.size w5 W)=>HC.out _ _ W (B5.out.trans (h.mono B5.out.size)) (L5.out.below h));have hbd:x.length<=100000000000:=hl;rw[hm] at hbd ⊢;have HM:=aa hm;clear ha b5 hx hc hp hq hQ d1 hm hpos hl;cases hpv:bO ag (p:Int) with
   | false=>have hf2:=aa (hf.out.trans (by show (bO ag (p:Int)&&_&&_)=false;rw[hpv];rfl));rw[hpv] at HP;clear hpv;(go_wp2_with fail);refine HP.out.mono ?_;rintro e w6 ⟨rfl,b6⟩;have B6:=aa (B5.out.trans (b6.mono B5.out.size));clear b6;(go_wp2_with fail);go_ret;exact⟨aV hf2.out.symm,B6.out⟩
   | true=>
     rw[hpv] at HP;(go_wp2_with fail);refine HP.out.mono ?_;rintro e w6 ⟨rfl,b6⟩;have B6:=aa (B5.out.trans (b6.mono B5.out.size));have d6:=D1.out w6 b6;have HQ6:=aa (HQ.out w6 b6);cases hqv:bO ag (q:Int) with
     | false=>have hf2:=aa (hf.out.trans (by show (bO ag (p:Int)&&bO ag (q:Int)&&_)=false;rw[hpv,hqv];rfl));rw[hqv] at HQ6;clear hqv hpv b6;(go_wp2_with fail);refine HQ6.out.mono ?_;rintro e w7 ⟨rfl,b7⟩;have B7:=aa (B6.out.trans (b7.mono B6.out.size));clear b7;(go_wp2_with fail);go_ret;exact⟨aV hf2.out.symm,B7.out⟩
     | true=>
       have hf2:=aa (hf.out.trans (show _=!(x.any Pr.letter) by show (bO ag (p:Int)&&bO ag (q:Int)&&_)=_;rw[hpv,hqv];rfl));rw[hqv] at HQ6;clear hqv hpv;(go_wp2_with fail);refine HQ6.out.mono ?_;rintro e w7 ⟨rfl,b7⟩;have B7:=aa (B6.out.trans (b7.mono B6.out.size));have H7:=aa (HL.out w7 (b6.trans (b7.mono b6.size)));obtain⟨bl,hbl⟩:∃ bl,x.any (fun c=>bO au c)=bl:=⟨_,rfl⟩;rw[hbl,HM.out] at H7;have hf3:=aa (hf2.out.trans (show (!(x.any Pr.letter))=!bl by rw[<-hbl];rfl));clear b7 b6 hbl hf2;(go_wp2_with fail);refine H7.out.mono ?_;rintro e w8 ⟨rfl,b8⟩;have B8:=aa (B7.out.trans (b8.mono B7.out.size));clear b8;cases bl with
       | true=>(go_wp2_with fail);go_ret;exact⟨aV hf3.out.symm,B8.out⟩
       | false=>(go_wp2_with fail);go_ret;exact⟨aV hf3.out.symm,B8.out⟩
theorem vS {b:ByteArray} {l:List UInt8} (h:b.data.toList=l):Value.string b=.string ⟨l.toArray⟩:=by rw[bm h]
theorem zi {P:Program} {tb ts te:TypeId} (hb:P.underlying tb=some (.slice te)) (he:P.underlying te=some (.int .i32)) (hs:P.underlying ts=some .string) (x:Nat) (w:World):
 (convert tb ts (.slice (some ⟨w.heap.size,0,none⟩) 1 1)).run P (w.alloc (.cells #[.int .i32 x] te))=.ok (.string ⟨(enc x).toArray⟩) (w.alloc (.cells #[.int .i32 x] te)):=by
 rw[run_convert_runes_string _ tb ts te _ _ _ hb he hs];have:=run_runesToString (P:=P) (w.alloc (.cells #[.int .i32 x] te)) ⟨w.heap.size,0,none⟩ 1 1 [(x:Int)] (by
  have h:=run_loadCells_list (P:=P) (w:=w.alloc (.cells #[.int .i32 x] te)) ⟨w.heap.size,0,none⟩ [.int .i32 x] (by
   intro j v hj
   match j,hj with
   |0,hj=>simp at hj;subst hj;simp[Addr.add])
  exact h)
 rw[this,vS (l:=enc x) (by rw[<-tj];unfold runesBytes;rw[List.foldl_cons,List.foldl_nil,br,show (ByteArray.empty).data.toList=[] from rfl,List.nil_append])]
theorem zA (c:Nat) (w:World) (hc:c<=1114111):
 Calls Tryz.prog 177 #[.int .i64 c] w fun e w'=>e=.returned (.string ⟨(enc c).toArray⟩)/\Below w.heap.size w w':=by
 have hcv:=zi (P:=Tryz.prog) Tryz.underlying187 Tryz.underlying21 Tryz.underlying9 c w;obtain⟨z,hz⟩:∃ z:Int,(c:Int)=z:=⟨_,rfl⟩;have z0:0<=z:=by omega
 have z1:z<=1114111:=by omega
 rw[hz] at hcv ⊢;clear hz hc;obtain⟨x,hx⟩:=ac ((enc c).toArray);rw[hx] at hcv ⊢;clear hx;go_enter Tryz.func177,Tryz.ntmps177;go_wp2
 go_ret;exact⟨rfl,bp _ _⟩
theorem rK (v:Value) (x:List Nat) (w:World) (hv:Reads w.heap.size w v x) (hl:x.length<=1000000000) (hx0:∀ c∈x,c<=1114111):
 Calls Tryz.prog 134 #[v] w fun e w'=>e=.returned (.string ⟨(flat x).toArray⟩)/\Below w.heap.size w w':=by
 obtain⟨A,cap,rfl,hx⟩:=hv;have HX:=aa hx;have HL:=aa (fun k=>kK (x.take k));have H0:=aa hx0;have HU:=aa zA;obtain⟨r,hr⟩:∃ r:ByteArray,(⟨(flat x).toArray⟩:ByteArray)=r:=⟨_,rfl⟩;rw[hr];have HR:=aa hr;clear hx hx0 hr;go_enter Tryz.func134,Tryz.ntmps134;go_wp2_with fail
 go_loopw [3,4] (fun s i wr=>∃ (k:Nat) (S:ByteArray),s=.string S/\k<=x.length/\i=.int .i64 k/\Below w.heap.size w wr/\Hid (S.data.toList=flat (x.take k))/\S.size<=4*k) (fun _ i _=>x.length-(intOf i).toNat)
 case atStart=>exact⟨0,_,rfl,bI _,rfl,aE _ _,by unfold Hid;rw[List.take_zero,cH],bI _⟩
 case round=>
  obtain⟨k,S,rfl,hk,rfl,hb,hS,hSz⟩:=hrel;have hsw:=hb.size;by_cases hlt:k<x.length
  ·obtain⟨ad,rfl,hlb,hc⟩:=HX.out (by omega);have c0:=hc k hlt;rw[<-hb.cell (p:=ad.add k) (by rw[aC];omega)] at c0;obtain⟨c,hcx⟩:=ac (x.getD k 0);have hcm:c<=1114111:=H0.out c (by rw[<-hcx,List.getD,aQ hlt];exact List.getElem_mem hlt);have htk:=aa (mn hlt);rw[hcx] at c0 htk;have HN:=aa (HU.out c wr hcm);obtain⟨T,hT⟩:∃ T:ByteArray,(⟨(enc c).toArray⟩:ByteArray)=T:=⟨_,rfl⟩;have hTs:T.size<=4:=(by have:=(ga (n:=c)).2;rw[<-hT,bS];simpa using this);have hTl:Hid (T.data.toList=enc c):=(by unfold Hid;rw[<-hT]);rw[hT] at HN;clear hc hcx hT hcm;(go_wp2_with fail);refine HN.out.mono ?_;rintro e w2 ⟨rfl,b2⟩;have hb2:Below w.heap.size w w2:=hb.trans (b2.mono hsw);have hST:Hid ((S++T).data.toList=flat (x.take (k+1))):=(by unfold Hid;rw[br,hS.out,hTl.out,htk.out]);clear b2 htk HN;(go_wp2_with fail);go_roundw;case rel=>exact⟨k+1,_,rfl,by omega,by go_num,hb2,hST,by rw[ByteArray.size_append];omega⟩
   case measure=>simp[intOf];omega
  ·have hke:k=x.length:=(by omega);have hf:Hid (S=r):=(by unfold Hid;have:=hS.out;rw[hke,List.take_length] at this;rw[<-HR.out];exact bm this);clear hke;(go_wp2_with fail);go_ret;exact⟨d8 hf.out,hb⟩
theorem pN (v:Value) (x:List Nat) (all:Bool) (w:World) (hv:Reads w.heap.size w v x) (hl:x.length<=100000000000) (hx0:∀ c∈x,c<=1114111):
 Calls Tryz.prog 131 #[v,.bool all] w fun e w'=>∃ d,e=.returned d/\Owned w.heap.size w' d (x.flatMap (Pr.one all))/\Below w.heap.size w w':=by
 obtain⟨A,cap,rfl,hx⟩:=hv;have hf:∀ c,(Pr.one all c).length<=2:=fun c=>by
  unfold Pr.one Pr.put Pr.small
  repeat' split
  all_goals simp
 have HX:=aa hx;have HL:=aa (fun k=>dS hf (x.take k));have H0:=aa hx0;have HG:=aa pF;have HI:=aa (fun (B c:Nat) v W (h:OwnR B W v dq)=>dN v dq c W h.reads (by simp[dq]));clear hx hx0 hf;go_enter Tryz.func131,Tryz.ntmps131;go_wp2_with fail
 go_loopw [5,6] (fun vv i wr=>∃ (k:Nat) (d:Value),vv=d/\k<=x.length/\i=.int .i64 k/\Below w.heap.size w wr/\Hid (Owned w.heap.size wr d ((x.take k).flatMap (Pr.one all)))) (fun _ i _=>x.length-(intOf i).toNat)
 case atStart=>exact⟨0,_,rfl,bI _,rfl,aE _ _,Owned.nil _ _⟩
 case round=>
  obtain⟨k,d,hd,hk,rfl,hb,ho⟩:=hrel;have hd2:=hd.symm;clear hd;subst hd2;have hsw:=hb.size;by_cases hlt:k<x.length
  ·obtain⟨ad,rfl,hlb,hc⟩:=HX.out (by omega);have c0:=hc k hlt;rw[<-hb.cell (p:=ad.add k) (by rw[aC];omega)] at c0;obtain⟨c,hcx⟩:=ac (x.getD k 0);have hcm:c<=1114111:=H0.out c (by rw[<-hcx,List.getD,aQ hlt];exact List.getElem_mem hlt);have htk:=aa (im (f:=Pr.one all) hlt);rw[hcx] at c0 htk;have hlen:=HL.out k;rw[dL] at hlen;have HIC:=aa (fun B v W (h:OwnR B W v dq)=>HI.out B c v W h);obtain⟨y,hy⟩:=ac ((x.take k).flatMap (Pr.one all));rw[hy] at htk ho hlen;obtain⟨A2,c2,hd⟩:=ho.out.slice;obtain⟨n2,hn2⟩:=ac y.length;rw[hn2] at hd;subst hd;have hyl:Hid (y.length<=200000000000):=(by unfold Hid;omega);obtain⟨z,hz⟩:∃ z:Int,(c:Int)=z:=⟨_,rfl⟩;rw[hz] at c0 HIC;have hz0:0<=z:=(by omega);have hz1:z<=1114111:=(by omega);obtain⟨g,hg⟩:=ac (bO dq z);rw[hg] at HIC;have HGC:Hid (Pr.gone c=g):=(by unfold Hid Pr.gone;rw[hz];exact hg);have HZ:=aa hz;clear hc hcx hlen hy hn2 hcm hg hz;(go_wp2_with fail);refine(HG.out wr).mono ?_;rintro e w2 ⟨v2,rfl,o2,b2⟩;have B2:=aa (hb.trans (b2.mono hsw));have P2:=aa (ho.out.below b2);have O2:=aa o2;obtain⟨A5,c5,rfl⟩:=o2.slice;clear o2 b2;(go_wp2_with fail);refine(HIC.out _ _ w2 O2.out).mono ?_;rintro e w3 ⟨rfl,b3⟩;have B3:=B2.out.trans (b3.mono B2.out.size);have P3:=aa (P2.out.below b3);have hs3:=B3.size;clear b3;cases g with
   | true=>
     have P4:Hid (Owned w.heap.size w3 (.slice A2 n2 c2) ((x.take (k+1)).flatMap (Pr.one all))):=(by unfold Hid;rw[htk.out,show Pr.one all c=[] by unfold Pr.one;rw[HGC.out];rfl,List.append_nil];exact P3.out);(go_wp2_with fail);go_roundw;case rel=>exact⟨k+1,_,rfl,by omega,by go_num,B3,P4⟩
     case measure=>simp[intOf];omega
   | false=>
     have hone:Hid (Pr.one all c=Pr.put all c):=(by unfold Hid Pr.one;rw[HGC.out];rfl);have hfin:Hid (∀ (p:List Nat) (W:World) (u:Value),Pr.put all c=p->Owned w.heap.size W u (y++p)->Owned w.heap.size W u ((x.take (k+1)).flatMap (Pr.one all))):=(fun p W u hp h=>by rw[htk.out,hone.out,hp];exact h);cases all with
     | false=>
       have hp:Hid (Pr.put false c=[c]):=rfl;have hcs:=aa (eV c);rw[HZ.out] at hcs;(go_wp2_with (at_builtin;refine dt rfl _ _ rfl w.heap.size (.slice A2 n2 c2) y [c] _ 1 w3 hcs.out rfl rfl P3.out rfl (by have:=hyl.out;simp;omega) hs3 ?_));intro v' w' o4 b4;have O4:=aa (hfin.out _ _ _ hp.out o4);have B4:=B3.trans b4;clear o4 b4;(go_wp2_with fail);go_roundw;case rel=>exact⟨k+1,_,rfl,by omega,by go_num,B4,O4⟩
       case measure=>simp[intOf];omega
     | true=>
       by_cases h0:c=223
       ·have hp:Hid (Pr.put true c=[115,115]):=(by unfold Hid Pr.put Pr.small;rw[if_pos rfl,if_pos h0]);have hcs:=aa (oX 115 115);have hzz:z=223:=(by rw[<-HZ.out,h0];rfl);subst hzz;clear h0;(go_wp2_with (at_builtin;refine dt rfl _ _ rfl w.heap.size (.slice A2 n2 c2) y [115,115] _ 2 w3 hcs.out rfl rfl P3.out rfl (by have:=hyl.out;simp;omega) hs3 ?_));intro v' w' o4 b4;have O4:=aa (hfin.out _ _ _ hp.out o4);have B4:=B3.trans b4;clear o4 b4;(go_wp2_with fail);go_roundw;case rel=>exact⟨k+1,_,rfl,by omega,by go_num,B4,O4⟩
        case measure=>simp[intOf];omega
       ·have hz223:z≠223:=(by rw[<-HZ.out];omega);have g0:(z==223)=false:=(by simpa using hz223);cases hcap:Pr.capital c with
        | true=>
          have hp:Hid (Pr.put true c=[c+32]):=(by unfold Hid Pr.put Pr.small;rw[if_pos rfl,if_neg h0,hcap];rfl);have hcs:=aa (eV (c+32));have h3:=Pr.capital_iff.1 hcap;have hzc:=HZ.out;have e1:((c+32:Nat):Int)=z+32:=(by omega);rw[e1] at hcs;rcases(show (decide (65<=z)=true/\decide (z<=90)=true)\/(decide (z<=90)=false/\decide (65<=z)=true/\decide (192<=z)=true/\decide (z<=222)=true/\(z != 215)=true) by simp only[decide_eq_true_eq,decide_eq_false_iff_not,bne_iff_ne];omega) with ⟨g1,g2⟩|⟨g2,g1,g3,g4,g5⟩
          all_goals
           clear hcap h3 h0 hzc e1 hz223;(go_wp2_with (at_builtin;refine dt rfl _ _ rfl w.heap.size (.slice A2 n2 c2) y [c+32] _ 1 w3 hcs.out rfl rfl P3.out rfl (by have:=hyl.out;simp;omega) hs3 ?_));intro v' w' o4 b4;have O4:=aa (hfin.out _ _ _ hp.out o4);have B4:=B3.trans b4;clear o4 b4;(go_wp2_with fail);go_roundw;case rel=>exact⟨k+1,_,rfl,by omega,by go_num,B4,O4⟩
           case measure=>simp[intOf];omega
        | false=>
          have hp:Hid (Pr.put true c=[c]):=(by unfold Hid Pr.put Pr.small;rw[if_pos rfl,if_neg h0,hcap];rfl);have hcs:=aa (eV c);have h3:¬(65<=c/\c<=90\/192<=c/\c<=222/\c≠215):=(fun h=>by rw[Pr.capital_iff.2 h] at hcap;cases hcap);have hzc:=HZ.out;rw[hzc] at hcs;rcases(show (decide (65<=z)=false/\decide (192<=z)=false)\/(decide (65<=z)=true/\decide (z<=90)=false/\decide (192<=z)=false)\/(decide (65<=z)=true/\decide (z<=90)=false/\decide (192<=z)=true/\decide (z<=222)=false)\/(decide (65<=z)=true/\decide (z<=90)=false/\decide (192<=z)=true/\decide (z<=222)=true/\(z != 215)=false) by simp only[decide_eq_true_eq,decide_eq_false_iff_not,bne_eq_false_iff_eq];omega) with ⟨g1,g2⟩|⟨g1,g2,g3⟩|⟨g1,g2,g3,g4⟩|⟨g1,g2,g3,g4,g5⟩
          all_goals
           clear hcap h3 h0 hzc hz223;(go_wp2_with (at_builtin;refine dt rfl _ _ rfl w.heap.size (.slice A2 n2 c2) y [c] _ 1 w3 hcs.out rfl rfl P3.out rfl (by have:=hyl.out;simp;omega) hs3 ?_));intro v' w' o4 b4;have O4:=aa (hfin.out _ _ _ hp.out o4);have B4:=B3.trans b4;clear o4 b4;(go_wp2_with fail);go_roundw;case rel=>exact⟨k+1,_,rfl,by omega,by go_num,B4,O4⟩
           case measure=>simp[intOf];omega
  ·have hke:k=x.length:=(by omega);have ho2:Hid (Owned w.heap.size wr d (x.flatMap (Pr.one all))):=(by have:=ho.out;rw[hke,List.take_length] at this;exact this);clear hke;(go_wp2_with fail);go_ret;exact⟨_,rfl,ho2.out,hb⟩
theorem yW (v:Value) (x:List Nat) (z:Int) (w:World) (hv:Reads w.heap.size w v x) (hl:x.length<=100000000000):
 Calls Tryz.prog 174 #[v,.int .i64 z] w fun e w'=>e=.returned (.bool (x.any fun c=>(c:Int)==z))/\w=w':=by
 obtain⟨A,cap,rfl,hx⟩:=hv;have HX:=aa hx;have HH:=aa (fun (k:Nat) (h:k<x.length) (h2:((x.getD k 0:Nat):Int)==z)=>mK (p:=fun c:Nat=>(c:Int)==z) h h2);have HM:=aa (fun (h:∀ k,k<x.length->(((x.getD k 0:Nat):Int)==z)=false)=>ko (p:=fun c:Nat=>(c:Int)==z) h);obtain⟨r,hr⟩:∃ r,(x.any fun c=>(c:Int)==z)=r:=⟨_,rfl⟩;rw[hr] at HH HM ⊢;clear hx hr;go_enter Tryz.func174,Tryz.ntmps174;go_wp2_with fail
 go_loop [5] (fun i=>∃ (k:Nat),k<=x.length/\i=.int .i64 k/\Hid (∀ j,j<k->(((x.getD j 0:Nat):Int)==z)=false)) (fun i=>x.length-(intOf i).toNat)
 case atStart=>exact⟨0,bI _,rfl,aa (fun j h=>absurd h (Nat.not_lt_zero _))⟩
 case round=>
  obtain⟨k,hk,rfl,hno⟩:=hrel;by_cases hlt:k<x.length
  ·obtain⟨ad,rfl,hlb,hc⟩:=HX.out (by omega);have c0:=hc k hlt;obtain⟨y,hy⟩:∃ y:Int,((x.getD k 0:Nat):Int)=y:=⟨_,rfl⟩;rw[hy] at c0;have HY:=aa hy;clear hc hy;rcases Bool.eq_false_or_eq_true (y==z) with h|h
   ·have hf:=aa (HH.out k hlt (by rw[HY.out];exact h));(go_wp2_with fail);go_ret;exact⟨aV hf.out.symm,rfl⟩
   ·have hno2:Hid (∀ j,j<k+1->(((x.getD j 0:Nat):Int)==z)=false):=aa (fun j hj=>by
     rcases Nat.lt_or_ge j k with h3|h3
     ·exact hno.out j h3
     ·obtain rfl:j=k:=(by omega);rw[HY.out];exact h)
    (go_wp2_with fail);go_round
    case rel=>exact⟨k+1,by omega,by go_num,hno2⟩
    case measure=>simp[intOf];omega
  ·have hke:k=x.length:=(by omega);have hf:=aa (HM.out (fun j hj=>hno.out j (by omega)));clear hke;(go_wp2_with fail);go_ret;exact⟨aV hf.out.symm,rfl⟩
end
end Go.Proofs.YtbgaglcgennhiaaGreatDoor


import Derived.Test.YtbgaglcgennhiaaGreatDoorQ31
set_option maxHeartbeats 8000000
set_option maxRecDepth 100000
namespace Go.Proofs.YtbgaglcgennhiaaGreatDoor
section
open Go.RowKit Go.Sort Tx Ct
def RowB {α:Type} (enc:α->List Value) (k:Nat) (t:TypeId) (W:World) (g:Nat) (l:List α):Prop:=∃ cur,Bk W g t cur/\∀ i p,l[i]?=some p->∀ c u,(enc p)[c]?=some u->cur[i*k+c]?=some u
theorem ta {W W':World} {b o:Nat} (h:W'.heap[b]?=W.heap[b]?):W'.cell? ⟨b,o,none⟩=W.cell? ⟨b,o,none⟩:=by unfold World.cell?;simp only[h]
theorem qz {W W':World} {p:Addr} (h:W'.heap[p.block]?=W.heap[p.block]?):W'.cell? p=W.cell? p:=by unfold World.cell?;simp only[h]
theorem RowB.below {α:Type} {enc:α->List Value} {k:Nat} {t:TypeId} {W W':World} {g:Nat} {l:List α} (h:RowB enc k t W g l) (hb:Below W.heap.size W W'):RowB enc k t W' g l:=by obtain⟨cur,hk,hc⟩:=h;exact⟨cur,hk.below hb hk.lt,hc⟩
theorem RowB.same {α:Type} {enc:α->List Value} {k:Nat} {t:TypeId} {W W':World} {g:Nat} {l:List α} (h:RowB enc k t W g l) (hb:W'.heap[g]?=W.heap[g]?):RowB enc k t W' g l:=by obtain⟨cur,hk,hc⟩:=h;refine⟨cur,?_,hc⟩;unfold Bk at hk ⊢;rw[hb];exact hk
theorem RowB.lt {α:Type} {enc:α->List Value} {k:Nat} {t:TypeId} {W:World} {g:Nat} {l:List α} (h:RowB enc k t W g l):g<W.heap.size:=by obtain⟨cur,hk,_⟩:=h;exact hk.lt
theorem RowB.cell {α:Type} {enc:α->List Value} {k:Nat} {t:TypeId} {W:World} {g:Nat} {l:List α} (h:RowB enc k t W g l) {i:Nat} {p:α} (hi:l[i]?=some p) {c:Nat} {u:Value} (hu:(enc p)[c]?=some u):W.cell? ⟨g,i*k+c,none⟩=some u/\W.frozen? ⟨g,i*k+c,none⟩=false:=by obtain⟨cur,hk,hc⟩:=h;exact⟨by rw[hk.cell];exact hc i p hi c u hu,hk.free _⟩
theorem RowB.row {α:Type} {enc:α->List Value} {k:Nat} {t:TypeId} {W:World} {g:Nat} {l:List α} (h:RowB enc k t W g l) {B:Nat} (hB:g<B) (n cap:Nat) (hn:l.length=n):RowV enc k B W (.slice (some ⟨g,0,none⟩) n cap) l:=by subst hn;refine⟨_,cap,rfl,fun _=>⟨g,0,rfl,hB,fun i p hi c u hu=>?_⟩⟩;rw[Nat.zero_add];exact(h.cell hi hu).1
theorem su {t:TypeId} {g:Nat}:∀ (vs:List Value) (W:World) (cur:Array Value) (i:Nat),Bk W g t cur->Bk (W.setCells g i vs) g t (setMany cur i vs)
 |[],_,_,_,h=>h
 | v::vs,W,cur,i,h=>by rw[World.setCells,setMany];exact su vs _ _ (i+1) (h.put i v)
theorem aL (g:Nat):∀ (vs:List Value) (i:Nat) (W:World) (b:Nat),b≠g->(W.setCells g i vs).heap[b]?=W.heap[b]?
 |[],_,_,_,_=>rfl
 | v::vs,i,W,b,h=>by rw[World.setCells,aL g vs (i+1) _ b h];exact Below.heap_setCell W ⟨g,i,none⟩ v b (fun e=>h (by rw[e]))
theorem cN {B:Nat} {w:World} (g:Nat) (hg:B<=g):∀ (vs:List Value) (i:Nat) (W:World),Below B w W->Below B w (W.setCells g i vs)
 |[],_,_,h=>h
 | v::vs,i,W,h=>by rw[World.setCells];exact cN g hg vs (i+1) _ (h.setCell (p:=⟨g,i,none⟩) hg _)
theorem bh (g:Nat):∀ (vs:List Value) (i:Nat) (W:World),(W.setCells g i vs).heap.size=W.heap.size
 |[],_,_=>rfl
 |v::vs,i,W=>by rw[World.setCells,bh g vs (i+1)];exact World.size_setCell _ _ _
theorem wy (cur:Array Value) (s:Nat) (vs:List Value) (t:Nat) (u:Value) (ht:cur[t]?=some u):(setMany cur s vs)[t]?=some (if s<=t/\t<s+vs.length then vs[t-s]! else u):=by
 have hlt:t<cur.size:=(Array.getElem?_eq_some_iff.1 ht).1;have h1:=get_setMany vs s cur t hlt;have hlt2:t<(setMany cur s vs).size:=by rw[size_setMany];exact hlt
 rw[getElem!_pos _ t hlt2,getElem!_pos cur t hlt] at h1;have hu:cur[t]=u:=(Array.getElem?_eq_some_iff.1 ht).2;rw[Array.getElem?_eq_getElem hlt2,h1,hu]
theorem RowB.put {α:Type} {enc:α->List Value} {k:Nat} {t:TypeId} {W:World} {g:Nat} {l:List α} (h:RowB enc k t W g l) (hk:∀ x,(enc x).length=k) (i:Nat) (y:α):RowB enc k t (W.setCells g (i*k) (enc y)) g (l.set i y):=by
 obtain⟨cur,hb,hc⟩:=h;refine⟨_,su _ _ _ _ hb,fun j p hj c u hu=>?_⟩;have hck:c<k:=by have:=(cD hu).1;rw[hk] at this;exact this
 have hjl:j<l.length:=by have:=(cD hj).1;simpa using this
 have hold:=hc j l[j] (aQ hjl) c _ (aQ (by rw[hk];exact hck));rw[wy _ _ _ _ _ hold,hk];rw[List.getElem?_set] at hj;by_cases hij:i=j
 ·subst hij;rw[if_pos rfl,if_pos hjl] at hj;obtain rfl:=Option.some.inj hj;rw[if_pos (by omega),show i*k+c-i*k=c by omega];have hcl:c<(enc y).length:=(by rw[hk];exact hck);rw[getElem!_pos _ c hcl,<-hu,aQ hcl]
 ·rw[if_neg hij] at hj;have hp:l[j]=p:=(by rw[aQ hjl] at hj;exact Option.some.inj hj);have hu2:(enc l[j])[c]'(by rw[hk];exact hck)=u:=(by have:=hu;rw[<-hp] at this;rw[aQ (by rw[hk];exact hck)] at this;exact Option.some.inj this);rw[hu2,if_neg];rintro ⟨h1,h2⟩;rcases Nat.lt_or_ge i j with h|h
  ·have:=Nat.mul_le_mul_right k (show i+1<=j from h);rw[Nat.add_mul,Nat.one_mul] at this;omega
  ·have:=Nat.mul_le_mul_right k (show j+1<=i by omega);rw[Nat.add_mul,Nat.one_mul] at this;omega
def gW (A C:Nat) (W W':World):Prop:=∀ b,A<=b->b<C->W'.heap[b]?=W.heap[b]?
def LiveT (A C:Nat) (W:World) (v:Value) (l:List (List UInt8)):Prop:=∃ AA cap,v=.slice AA l.length cap/\(0<l.length->∃ ad:Addr,AA=some ad/\A<=ad.block/\ad.block<C/\∀ i x,l[i]?=some x->W.cell? (ad.add i)=some (.string (ae x)))
theorem LiveT.upto {A C:Nat} {W W':World} {v:Value} {l:List (List UInt8)} (h:LiveT A C W v l) (hu:gW A C W W'):LiveT A C W' v l:=by obtain⟨AA,cap,hv,hc⟩:=h;refine⟨AA,cap,hv,fun h0=>?_⟩;obtain⟨ad,ha,h1,h2,h3⟩:=hc h0;exact⟨ad,ha,h1,h2,fun i x hi=>by rw[qz (W:=W) (p:=ad.add i) (show W'.heap[(ad.add i).block]?=W.heap[(ad.add i).block]? by rw[aC];exact hu _ h1 h2)];exact h3 i x hi⟩
theorem LiveT.reads {A C:Nat} {W:World} {v:Value} {l:List (List UInt8)} (h:LiveT A C W v l) (hC:C<=W.heap.size):ReadT W.heap.size W v (al l):=by have hll:(al l).length=l.length:=cr _;obtain⟨AA,cap,hv,hc⟩:=h;refine⟨AA,cap,by rw[hll];exact hv,fun h0=>?_⟩;obtain⟨ad,ha,h1,h2,h3⟩:=hc (by omega);refine⟨ad,ha,by omega,fun i b hi=>?_⟩;obtain⟨y,hy,rfl⟩:=dC hi;exact h3 i y hy
theorem LiveT.of_own {A:Nat} {W:World} {v:Value} {l:List (List UInt8)} (h:OwnT A W v (al l)):LiveT A W.heap.size W v l:=by
 have hll:(al l).length=l.length:=cr _;obtain⟨AA,cap,hv,hc⟩:=h.reads;rw[hll] at hv hc;refine⟨AA,cap,hv,fun h0=>?_⟩;obtain⟨ad,ha,h2,h3⟩:=hc h0;refine⟨ad,ha,?_,h2,fun i x hi=>h3 i _ (by unfold al;rw[List.getElem?_map,hi];rfl)⟩;have h':W.ownsRow A 9 1 v (al l).length (cX (al l)):=h;rcases h'.2 with ⟨rfl,h00⟩|⟨g,cap2,cur,rfl,hg,_⟩
 ·rw[hll] at h00;omega
 ·have e:Value.slice (some ⟨g,0,none⟩) (al l).length cap2=.slice AA l.length cap:=hv;injection e with e1 e2 e3;rw[ha] at e1;injection e1 with e1;rw[<-e1];exact hg
theorem LiveT.wider {A A' C C':Nat} {W:World} {v:Value} {l:List (List UInt8)} (h:LiveT A C W v l) (hA:A'<=A) (hC:C<=C'):LiveT A' C' W v l:=by obtain⟨AA,cap,hv,hc⟩:=h;refine⟨AA,cap,hv,fun h0=>?_⟩;obtain⟨ad,ha,h1,h2,h3⟩:=hc h0;exact⟨ad,ha,by omega,by omega,h3⟩
def LiveR {α:Type} (enc:α->List Value) (k:Nat) (t:TypeId) (L:Nat->Nat->World->α->Prop) (A C:Nat) (W:World) (v:Value) (l:List α):Prop:=∃ AA cap,v=.slice AA l.length cap/\(0<l.length->∃ (g:Nat) (cut:Nat->Nat),AA=some ⟨g,0,none⟩/\A<=g/\RowB enc k t W g l/\g<cut 0/\(∀ i,cut i<=cut (i+1))/\cut l.length<=C/\∀ i y,l[i]?=some y->L (cut i) (cut (i+1)) W y)
def fC {α:Type} (L:Nat->Nat->World->α->Prop):Prop:=∀ A C W W' x,gW A C W W'->L A C W x->L A C W' x
theorem bT {cut:Nat->Nat} (h:∀ i,cut i<=cut (i+1)) {i j:Nat} (hij:i<=j):cut i<=cut j:=by
 induction hij with
 |refl=>exact aq _
 |step _ ih=>exact co ih (h _)
theorem LiveR.upto {α:Type} {enc:α->List Value} {k:Nat} {t:TypeId} {L:Nat->Nat->World->α->Prop} (hL:fC L) {A C:Nat} {W W':World} {v:Value} {l:List α} (h:LiveR enc k t L A C W v l) (hu:gW A C W W'):LiveR enc k t L A C W' v l:=by
 obtain⟨AA,cap,hv,hc⟩:=h;refine⟨AA,cap,hv,fun h0=>?_⟩;obtain⟨g,cut,ha,h1,h2,h3,h4,h5,h6⟩:=hc h0;have hm:=fun {i j:Nat} (hij:i<=j)=>bT h4 hij
 have hgC:g<C:=Nat.lt_of_lt_of_le h3 (co (hm (bI _)) h5);refine⟨g,cut,ha,h1,h2.same (hu g h1 hgC),h3,h4,h5,fun i y hi=>hL _ _ _ _ _ (fun b hb1 hb2=>hu b ?_ ?_) (h6 i y hi)⟩
 ·have:=hm (bI i);omega
 ·have hil:=(cD hi).1;have:=hm (show i+1<=l.length from hil);omega
theorem LiveR.row {α:Type} {enc:α->List Value} {k:Nat} {t:TypeId} {L:Nat->Nat->World->α->Prop} {A C:Nat} {W:World} {v:Value} {l:List α} (h:LiveR enc k t L A C W v l) {B:Nat} (hB:C<=B):RowV enc k B W v l:=by
 obtain⟨AA,cap,rfl,hc⟩:=h;by_cases h0:0<l.length
 ·obtain⟨g,cut,rfl,h1,h2,h3,h4,h5,_⟩:=hc h0;have:=bT h4 (bI l.length);exact h2.row (by omega) _ cap rfl
 ·exact⟨AA,cap,rfl,fun h=>absurd h h0⟩
theorem LiveR.mem {α:Type} {enc:α->List Value} {k:Nat} {t:TypeId} {L:Nat->Nat->World->α->Prop} {A C:Nat} {W:World} {v:Value} {l:List α} (h:LiveR enc k t L A C W v l) {y:α} (hy:y∈l):∃ A' C',A<=A'/\C'<=C/\L A' C' W y:=by obtain⟨AA,cap,rfl,hc⟩:=h;obtain⟨i,hi,rfl⟩:=List.getElem_of_mem hy;obtain⟨g,cut,rfl,h1,h2,h3,h4,h5,h6⟩:=hc (by omega);have:=bT h4 (bI i);have:=bT h4 (show i+1<=l.length from hi);exact⟨cut i,cut (i+1),by omega,by omega,h6 i _ (aQ hi)⟩
theorem LiveR.wider {α:Type} {enc:α->List Value} {k:Nat} {t:TypeId} {L:Nat->Nat->World->α->Prop} {A A' C C':Nat} {W:World} {v:Value} {l:List α} (h:LiveR enc k t L A C W v l) (hA:A'<=A) (hC:C<=C'):LiveR enc k t L A' C' W v l:=by obtain⟨AA,cap,hv,hc⟩:=h;refine⟨AA,cap,hv,fun h0=>?_⟩;obtain⟨g,cut,ha,h1,h2,h3,h4,h5,h6⟩:=hc h0;exact⟨g,cut,ha,by omega,h2,h3,h4,by omega,h6⟩
def gV (A C:Nat) (W:World) (p:bj × bB):Prop:=LiveT A C W (sl p.2) p.1.groups
theorem d7:fC gV:=fun _ _ _ _ _ hu h=>LiveT.upto h hu
def LiveU (A C:Nat) (W:World) (u:bk):Prop:=LiveR az 6 53 gV A C W (sl u.iv) u.items/\LiveT A C W (sl u.pv) u.pend
theorem cR:fC LiveU:=fun _ _ _ _ _ hu h=>⟨h.1.upto d7 hu,h.2.upto hu⟩
def LiveH (A C:Nat) (W:World) (h:aN):Prop:=LiveR ao 4 28 LiveU A C W (sl h.uv) h.users
theorem bW:fC LiveH:=fun _ _ _ _ _ hu h=>LiveR.upto cR h hu
def LiveS (A C:Nat) (W:World) (v:Value) (l:List aN):Prop:=LiveR aw 2 47 LiveH A C W v l
theorem LiveR.readsI {A C:Nat} {W:World} {v:Value} {l:List (bj × bB)} (h:LiveR az 6 53 gV A C W v l) (hC:C<=W.heap.size):ReadI W.heap.size W v l:=ReadI.of_row (h.row hC) fun p hp=>by obtain⟨A',C',_,h2,h3⟩:=h.mem hp;exact LiveT.reads h3 (by omega)
theorem LiveU.reads {A C:Nat} {W:World} {u:bk} (h:LiveU A C W u) (hC:C<=W.heap.size):InU W u:=⟨h.1.readsI hC,h.2.reads hC⟩
theorem LiveH.reads {A C:Nat} {W:World} {h:aN} (hl:LiveH A C W h) (hC:C<=W.heap.size):ReadU W (sl h.uv) h.users:=⟨LiveR.row hl hC,fun p hp=>by obtain⟨A',C',_,h2,h3⟩:=LiveR.mem hl hp;exact LiveU.reads h3 (by omega)⟩
theorem LiveS.reads {A C:Nat} {W:World} {v:Value} {l:List aN} (hl:LiveS A C W v l) (hC:C<=W.heap.size):ReadH W v l:=⟨LiveR.row hl hC,fun p hp=>by obtain⟨A',C',_,h2,h3⟩:=LiveR.mem hl hp;exact LiveH.reads h3 (by omega)⟩
def cY (u:bk):List UInt8 × List UInt8 × List bj × List (List UInt8):=(u.name,u.pw,u.items.map (·.1),u.pend)
def bD (h:aN):List UInt8 × List (List UInt8 × List UInt8 × List bj × List (List UInt8)):=(h.name,h.users.map cY)
def aK {α:Type} (enc:α->List Value) (L:List α):List Value:=L.flatMap enc
theorem cZ {α:Type} {enc:α->List Value} {k:Nat} (hk:∀ x,(enc x).length=k):∀ L:List α,(aK enc L).length=L.length*k
 |[]=>by simp[aK]
 | x::L=>by have e:aK enc (x::L)=enc x++aK enc L:=rfl;rw[e,de,hk,cZ hk L,List.length_cons,Nat.add_mul];omega
theorem cC {α:Type} {enc:α->List Value} {k:Nat} (hk:∀ x,(enc x).length=k):∀ (L:List α) (i c:Nat) (p:α),L[i]?=some p->c<k->(aK enc L)[i*k+c]?=(enc p)[c]?
 | x::L,0,c,p,hp,hc=>by have e:aK enc (x::L)=enc x++aK enc L:=rfl;obtain rfl:x=p:=(by simpa using hp);rw[e,Nat.zero_mul,Nat.zero_add,List.getElem?_append_left (by rw[hk];exact hc)]
 | x::L,i+1,c,p,hp,hc=>by have e:aK enc (x::L)=enc x++aK enc L:=rfl;rw[e,List.getElem?_append_right (by rw[hk,Nat.add_mul];omega),hk,show (i+1)*k+c-k=i*k+c by rw[Nat.add_mul];omega];exact cC hk L i c p (by simpa using hp) hc
def fB {α:Type} (enc:α->List Value) (k:Nat) (t:TypeId) (l:List α) (w:World) (e:Ending) (w':World):Prop:=∃ A cap,e=.returned (.slice A l.length cap)/\Below w.heap.size w w'/\(0<l.length->∃ g,A=some ⟨g,0,none⟩/\w.heap.size<=g/\RowB enc k t w' g l)
theorem qZ:(Tryz.prog.info? 53).map (fun i=>(i.zero,i.size,i.bytes))=some (some (.agg #[.string ⟨#[]⟩,.string ⟨#[]⟩,.slice none 0 0,.int .i64 0,.bool false,.bool false]),6,72):=by kernel_rfl
theorem zG (x:bj × bB):∀ v∈az x,v.oneCell'=true:=fun v hv=>by simp only[az,gH,sl,List.mem_cons,List.not_mem_nil,or_false] at hv;rcases hv with rfl|rfl|rfl|rfl|rfl|rfl<;>rfl
theorem mP (a:Addr) (cap:Nat) (w:World):Calls Tryz.prog 92 #[.slice (some a) 0 cap] w fun e w2=>∃ A c,e=.returned (.slice A 0 c)/\Below w.heap.size w w2:=by
 obtain⟨i0,hi0,hz0,hz1,hz2⟩:=info_parts qZ;have q22:∀ (w:World) (a:Option Addr) (n c n' c':Nat),(binOp .eql 25 (.slice a n c) (.slice none n' c')).run Tryz.prog w=.ok (.bool a.isNone) w:=fun w a n c n' c'=>Lib.run_eql_slice_nil w _ _ a n c n' c' Tryz.underlying25
 go_enter Tryz.func92,Tryz.ntmps92;go_wp2_with (at_builtin;refine wpList_append_own _ rfl _ _ 25 rfl w.heap.size 53 i0 _ 6 72 Tryz.underlying25 hi0 hz0 hz1 hz2 rfl (by decide) _ _ _ rfl (World.ownsRow_made w #[] 0 (aq _) (bI _) rfl) a 0 cap [] rfl ?qc1 ?qc2 ?qc3 ?qc4 ?qc5 ?qc6 ?_)
 case qc1=>simp
 case qc2=>intro j u hj;simp at hj
 case qc3=>intro u hu;cases hu
 case qc4=>simp
 case qc5=>simp
 case qc6=>simp
 intro v' w1 hown hgrow hnil;go_wp2_with fail
 go_ret;have hbl:Below w.heap.size w w1:=((Below.refl _ w).alloc (aq _) _).grown hgrow (by simp) (by intro k hk;simp[Value.ownBlock] at hk;omega);rcases hown.2 with ⟨rfl,_⟩|⟨g,cap2,cur,rfl,_⟩
 ·exact⟨none,0,rfl,hbl⟩
 ·exact⟨some ⟨g,0,none⟩,cap2,by simp,hbl⟩
theorem oz (v:Value) (l:List (bj × bB)) (w:World) (hR:RowV az 6 w.heap.size w v l) (hl:l.length<=1000000):
 Calls Tryz.prog 92 #[v] w fun e w'=>fB az 6 53 l w e w':=by
 obtain⟨A,cap,rfl,hA⟩:=hR;by_cases h0:0<l.length
 ·obtain⟨b,off,rfl,hb,hc⟩:=hA h0;obtain⟨i0,hi0,hz0,hz1,hz2⟩:=info_parts qZ;have hk:∀ x:bj × bB,(az x).length=6:=(fun _=>rfl);refine(AnyE.slices_Clone Tryz.cloneItem i0 _ 6 72 hi0 hz0 hz1 hz2 rfl (by decide) Tryz.sizeOf53 b off l.length cap (aK az l) w (by rw[cZ hk]) (co hl (by decide)) (by omega) (fun j u hj=>?_) (fun u hu=>?_)).mono ?_
  ·have hj1:=(cD hj).1;rw[cZ hk] at hj1;have hj2:j / 6<l.length:=(by omega);have hj3:j % 6<6:=Nat.mod_lt _ (by decide);have hj4:j / 6*6+j % 6=j:=(by omega);have e1:=cC hk l (j / 6) (j % 6) _ (aQ hj2) hj3;rw[hj4,hj] at e1;have:=hc (j / 6) _ (aQ hj2) (j % 6) u e1.symm;rw[show off+j / 6*6+j % 6=off+j by omega] at this;exact this
  ·obtain⟨x,_,hx⟩:=List.mem_flatMap.1 hu;exact zG x u hx
  ·rintro e w2 ⟨v',rfl,ho,hne,hbl⟩;rcases ho.2 with ⟨rfl,_⟩|⟨g,cap2,cur,rfl,hge,hh,hnc,_,hcs,htk⟩
   ·exact absurd rfl hne
   ·refine⟨some ⟨g,0,none⟩,cap2,rfl,hbl,fun _=>⟨g,rfl,hge,cur,hh,fun i p hp c u hu=>?_⟩⟩;have hcl:c<6:=(cD hu).1;have hil:i<l.length:=(cD hp).1;have e1:=cC hk l i c p hp hcl;rw[hu] at e1;have e2:(cur.toList.take (l.length*6))[i*6+c]?=some u:=(by rw[htk];exact e1);rw[List.getElem?_take,if_pos (by omega),Array.getElem?_toList] at e2;exact e2
 ·obtain rfl:l=[]:=eB (by omega);cases A with
  | none=>refine(AnyE.slices_Clone_nil Tryz.cloneItem 0 cap w).mono ?_;rintro e w2 ⟨rfl,rfl⟩;exact⟨none,0,rfl,aE _ _,fun h=>absurd h (by simp)⟩
  | some a=>refine(mP a cap w).mono ?_;rintro e w2 ⟨A,c,rfl,hb⟩;exact⟨A,c,rfl,hb,fun h=>absurd h (by simp)⟩
theorem q7:(Tryz.prog.info? 28).map (fun i=>(i.zero,i.size,i.bytes))=some (some (.agg #[.string ⟨#[]⟩,.string ⟨#[]⟩,.slice none 0 0,.slice none 0 0]),4,80):=by kernel_rfl
theorem xz (x:bk):∀ v∈ao x,v.oneCell'=true:=fun v hv=>by simp only[ao,sl,List.mem_cons,List.not_mem_nil,or_false] at hv;rcases hv with rfl|rfl|rfl|rfl<;>rfl
theorem mQ (a:Addr) (cap:Nat) (w:World):Calls Tryz.prog 93 #[.slice (some a) 0 cap] w fun e w2=>∃ A c,e=.returned (.slice A 0 c)/\Below w.heap.size w w2:=by
 obtain⟨i0,hi0,hz0,hz1,hz2⟩:=info_parts q7;have q22:∀ (w:World) (a:Option Addr) (n c n' c':Nat),(binOp .eql 45 (.slice a n c) (.slice none n' c')).run Tryz.prog w=.ok (.bool a.isNone) w:=fun w a n c n' c'=>Lib.run_eql_slice_nil w _ _ a n c n' c' Tryz.underlying45
 go_enter Tryz.func93,Tryz.ntmps93;go_wp2_with (at_builtin;refine wpList_append_own _ rfl _ _ 45 rfl w.heap.size 28 i0 _ 4 80 Tryz.underlying45 hi0 hz0 hz1 hz2 rfl (by decide) _ _ _ rfl (World.ownsRow_made w #[] 0 (aq _) (bI _) rfl) a 0 cap [] rfl ?qc1 ?qc2 ?qc3 ?qc4 ?qc5 ?qc6 ?_)
 case qc1=>simp
 case qc2=>intro j u hj;simp at hj
 case qc3=>intro u hu;cases hu
 case qc4=>simp
 case qc5=>simp
 case qc6=>simp
 intro v' w1 hown hgrow hnil;go_wp2_with fail
 go_ret;have hbl:Below w.heap.size w w1:=((Below.refl _ w).alloc (aq _) _).grown hgrow (by simp) (by intro k hk;simp[Value.ownBlock] at hk;omega);rcases hown.2 with ⟨rfl,_⟩|⟨g,cap2,cur,rfl,_⟩
 ·exact⟨none,0,rfl,hbl⟩
 ·exact⟨some ⟨g,0,none⟩,cap2,by simp,hbl⟩
theorem js (v:Value) (l:List (bk)) (w:World) (hR:RowV ao 4 w.heap.size w v l) (hl:l.length<=1000000):
 Calls Tryz.prog 93 #[v] w fun e w'=>fB ao 4 28 l w e w':=by
 obtain⟨A,cap,rfl,hA⟩:=hR;by_cases h0:0<l.length
 ·obtain⟨b,off,rfl,hb,hc⟩:=hA h0;obtain⟨i0,hi0,hz0,hz1,hz2⟩:=info_parts q7;have hk:∀ x:bk,(ao x).length=4:=(fun _=>rfl);refine(AnyE.slices_Clone Tryz.cloneUser i0 _ 4 80 hi0 hz0 hz1 hz2 rfl (by decide) Tryz.sizeOf28 b off l.length cap (aK ao l) w (by rw[cZ hk]) (co hl (by decide)) (by omega) (fun j u hj=>?_) (fun u hu=>?_)).mono ?_
  ·have hj1:=(cD hj).1;rw[cZ hk] at hj1;have hj2:j / 4<l.length:=(by omega);have hj3:j % 4<4:=Nat.mod_lt _ (by decide);have hj4:j / 4*4+j % 4=j:=(by omega);have e1:=cC hk l (j / 4) (j % 4) _ (aQ hj2) hj3;rw[hj4,hj] at e1;have:=hc (j / 4) _ (aQ hj2) (j % 4) u e1.symm;rw[show off+j / 4*4+j % 4=off+j by omega] at this;exact this
  ·obtain⟨x,_,hx⟩:=List.mem_flatMap.1 hu;exact xz x u hx
  ·rintro e w2 ⟨v',rfl,ho,hne,hbl⟩;rcases ho.2 with ⟨rfl,_⟩|⟨g,cap2,cur,rfl,hge,hh,hnc,_,hcs,htk⟩
   ·exact absurd rfl hne
   ·refine⟨some ⟨g,0,none⟩,cap2,rfl,hbl,fun _=>⟨g,rfl,hge,cur,hh,fun i p hp c u hu=>?_⟩⟩;have hcl:c<4:=(cD hu).1;have hil:i<l.length:=(cD hp).1;have e1:=cC hk l i c p hp hcl;rw[hu] at e1;have e2:(cur.toList.take (l.length*4))[i*4+c]?=some u:=(by rw[htk];exact e1);rw[List.getElem?_take,if_pos (by omega),Array.getElem?_toList] at e2;exact e2
 ·obtain rfl:l=[]:=eB (by omega);cases A with
  | none=>refine(AnyE.slices_Clone_nil Tryz.cloneUser 0 cap w).mono ?_;rintro e w2 ⟨rfl,rfl⟩;exact⟨none,0,rfl,aE _ _,fun h=>absurd h (by simp)⟩
  | some a=>refine(mQ a cap w).mono ?_;rintro e w2 ⟨A,c,rfl,hb⟩;exact⟨A,c,rfl,hb,fun h=>absurd h (by simp)⟩
theorem nc:(Tryz.prog.info? 47).map (fun i=>(i.zero,i.size,i.bytes))=some (some (.agg #[.string ⟨#[]⟩,.slice none 0 0]),2,40):=by kernel_rfl
theorem sO (x:aN):∀ v∈aw x,v.oneCell'=true:=fun v hv=>by simp only[aw,sl,List.mem_cons,List.not_mem_nil,or_false] at hv;rcases hv with rfl|rfl<;>rfl
theorem mO (a:Addr) (cap:Nat) (w:World):Calls Tryz.prog 62 #[.slice (some a) 0 cap] w fun e w2=>∃ A c,e=.returned (.slice A 0 c)/\Below w.heap.size w w2:=by
 obtain⟨i0,hi0,hz0,hz1,hz2⟩:=info_parts nc;have q22:∀ (w:World) (a:Option Addr) (n c n' c':Nat),(binOp .eql 22 (.slice a n c) (.slice none n' c')).run Tryz.prog w=.ok (.bool a.isNone) w:=fun w a n c n' c'=>Lib.run_eql_slice_nil w _ _ a n c n' c' Tryz.underlying22
 go_enter Tryz.func62,Tryz.ntmps62;go_wp2_with (at_builtin;refine wpList_append_own _ rfl _ _ 22 rfl w.heap.size 47 i0 _ 2 40 Tryz.underlying22 hi0 hz0 hz1 hz2 rfl (by decide) _ _ _ rfl (World.ownsRow_made w #[] 0 (aq _) (bI _) rfl) a 0 cap [] rfl ?qc1 ?qc2 ?qc3 ?qc4 ?qc5 ?qc6 ?_)
 case qc1=>simp
 case qc2=>intro j u hj;simp at hj
 case qc3=>intro u hu;cases hu
 case qc4=>simp
 case qc5=>simp
 case qc6=>simp
 intro v' w1 hown hgrow hnil;go_wp2_with fail
 go_ret;have hbl:Below w.heap.size w w1:=((Below.refl _ w).alloc (aq _) _).grown hgrow (by simp) (by intro k hk;simp[Value.ownBlock] at hk;omega);rcases hown.2 with ⟨rfl,_⟩|⟨g,cap2,cur,rfl,_⟩
 ·exact⟨none,0,rfl,hbl⟩
 ·exact⟨some ⟨g,0,none⟩,cap2,by simp,hbl⟩
theorem jr (v:Value) (l:List (aN)) (w:World) (hR:RowV aw 2 w.heap.size w v l) (hl:l.length<=1000000):
 Calls Tryz.prog 62 #[v] w fun e w'=>fB aw 2 47 l w e w':=by
 obtain⟨A,cap,rfl,hA⟩:=hR;by_cases h0:0<l.length
 ·obtain⟨b,off,rfl,hb,hc⟩:=hA h0;obtain⟨i0,hi0,hz0,hz1,hz2⟩:=info_parts nc;have hk:∀ x:aN,(aw x).length=2:=(fun _=>rfl);refine(AnyE.slices_Clone Tryz.cloneHost i0 _ 2 40 hi0 hz0 hz1 hz2 rfl (by decide) Tryz.sizeOf47 b off l.length cap (aK aw l) w (by rw[cZ hk]) (co hl (by decide)) (by omega) (fun j u hj=>?_) (fun u hu=>?_)).mono ?_
  ·have hj1:=(cD hj).1;rw[cZ hk] at hj1;have hj2:j / 2<l.length:=(by omega);have hj3:j % 2<2:=Nat.mod_lt _ (by decide);have hj4:j / 2*2+j % 2=j:=(by omega);have e1:=cC hk l (j / 2) (j % 2) _ (aQ hj2) hj3;rw[hj4,hj] at e1;have:=hc (j / 2) _ (aQ hj2) (j % 2) u e1.symm;rw[show off+j / 2*2+j % 2=off+j by omega] at this;exact this
  ·obtain⟨x,_,hx⟩:=List.mem_flatMap.1 hu;exact sO x u hx
  ·rintro e w2 ⟨v',rfl,ho,hne,hbl⟩;rcases ho.2 with ⟨rfl,_⟩|⟨g,cap2,cur,rfl,hge,hh,hnc,_,hcs,htk⟩
   ·exact absurd rfl hne
   ·refine⟨some ⟨g,0,none⟩,cap2,rfl,hbl,fun _=>⟨g,rfl,hge,cur,hh,fun i p hp c u hu=>?_⟩⟩;have hcl:c<2:=(cD hu).1;have hil:i<l.length:=(cD hp).1;have e1:=cC hk l i c p hp hcl;rw[hu] at e1;have e2:(cur.toList.take (l.length*2))[i*2+c]?=some u:=(by rw[htk];exact e1);rw[List.getElem?_take,if_pos (by omega),Array.getElem?_toList] at e2;exact e2
 ·obtain rfl:l=[]:=eB (by omega);cases A with
  | none=>refine(AnyE.slices_Clone_nil Tryz.cloneHost 0 cap w).mono ?_;rintro e w2 ⟨rfl,rfl⟩;exact⟨none,0,rfl,aE _ _,fun h=>absurd h (by simp)⟩
  | some a=>refine(mO a cap w).mono ?_;rintro e w2 ⟨A,c,rfl,hb⟩;exact⟨A,c,rfl,hb,fun h=>absurd h (by simp)⟩
def EachV {α:Type} (enc:α->List Value) (k:Nat) (t:TypeId) (R:Nat->Nat->World->α->α->Prop) (l:List α) (w:World) (e:Ending) (w':World):Prop:=
 ∃ A cap l',e=.returned (.slice A l.length cap)/\l'.length=l.length/\Below w.heap.size w w' /\
   (0<l.length->∃ (g:Nat) (cut:Nat->Nat),A=some ⟨g,0,none⟩/\w.heap.size<=g/\RowB enc k t w' g l'/\g<cut 0/\(∀ i,cut i<=cut (i+1))/\cut l.length<=w'.heap.size/\∀ i x y,l[i]?=some x->l'[i]?=some y->R (cut i) (cut (i+1)) w' x y)
def e7 {α:Type} (R:Nat->Nat->World->α->α->Prop):Prop:=∀ A C W W' x y,gW A C W W'->R A C W x y->R A C W' x y
theorem cO {A C:Nat} {W W':World} (h:Below W.heap.size W W') (hC:C<=W.heap.size):gW A C W W':=fun b _ hb=>h.block b (by omega)
structure EachR {α:Type} (enc:α->List Value) (k:Nat) (t:TypeId) (R:Nat->Nat->World->α->α->Prop) (l:List α) (g:Nat) (i:Nat) (D:List α) (cut:Nat->Nat) (W:World):Prop where
 len:D.length=l.length
 row:RowB enc k t W g D
 rest:∀ j,i<=j->D[j]?=l[j]?
 low:g<cut 0
 mono:∀ j,cut j<=cut (j+1)
 top:cut i<=W.heap.size
 same:∀ j,i<=j->cut j=cut i
 done:∀ j x y,j<i->l[j]?=some x->D[j]?=some y->R (cut j) (cut (j+1)) W x y
theorem EachR.start {α:Type} {enc:α->List Value} {k:Nat} {t:TypeId} {R:Nat->Nat->World->α->α->Prop} {l:List α} {g:Nat} {W:World} (h:RowB enc k t W g l):EachR enc k t R l g 0 l (fun _=>W.heap.size) W:=⟨rfl,h,fun _ _=>rfl,h.lt,fun _=>aq _,aq _,fun _ _=>rfl,fun _ _ _ hj=>absurd hj (Nat.not_lt_zero _)⟩
theorem EachR.below {α:Type} {enc:α->List Value} {k:Nat} {t:TypeId} {R:Nat->Nat->World->α->α->Prop} {l:List α} {g i:Nat} {D:List α} {cut:Nat->Nat} {W W':World} (hR:e7 R) (h:EachR enc k t R l g i D cut W) (hb:Below W.heap.size W W'):EachR enc k t R l g i D cut W':=⟨h.len,h.row.below hb,h.rest,h.low,h.mono,co h.top hb.size,h.same,fun j x y hj hx hy=>hR _ _ _ _ _ _ (cO hb (co (bT h.mono (show j+1<=i from hj)) h.top)) (h.done j x y hj hx hy)⟩
def me {α:Type} (R:Nat->Nat->World->α->α->Prop):Prop:=∀ A A' C C' W x y,A'<=A->C<=C'->R A C W x y->R A' C' W x y
theorem EachR.next {α:Type} {enc:α->List Value} {k:Nat} {t:TypeId} {R:Nat->Nat->World->α->α->Prop} {l:List α} {g i:Nat} {D:List α} {cut:Nat->Nat} {W W':World} (hR:e7 R) (hW:me R) (hk:∀ x,(enc x).length=k) (h:EachR enc k t R l g i D cut W) (hb:Below W.heap.size W W') (hi:i<l.length) {x y:α} (hx:l[i]?=some x) (hy:R W.heap.size W'.heap.size W' x y):
 EachR enc k t R l g (i+1) (D.set i y) (fun j=>if j<=i then cut j else W'.heap.size) (W'.setCells g (i*k) (enc y)):=by
 have h':=h.below hR hb;have hs:W.heap.size<=W'.heap.size:=hb.size;have hg:∀ A C:Nat,g<A->gW A C W' (W'.setCells g (i*k) (enc y)):=fun A C hA b hb1 _=>aL g _ _ _ b (by omega)
 have ht:=h.top;refine⟨by rw[List.length_set];exact h.len,h'.row.put hk i y,fun j hj=>?_,?_,fun j=>?_,?_,fun j hj=>?_,fun j x' y' hj hx' hy'=>?_⟩
 ·rw[List.getElem?_set_ne (by omega)];exact h.rest j (by omega)
 ·(try dsimp only);rw[if_pos (bI _)];exact h.low
 ·(try dsimp only);rcases Nat.lt_trichotomy j i with hj|hj|hj
  ·rw[if_pos (by omega),if_pos (by omega)];exact h.mono j
  ·subst hj;rw[if_pos (aq _),if_neg (by omega)];omega
  ·rw[if_neg (by omega),if_neg (by omega)];exact aq _
 ·(try dsimp only);rw[if_neg (by omega),bh];exact aq _
 ·(try dsimp only);rw[if_neg (by omega),if_neg (by omega)]
 ·(try dsimp only);have hgj:g<cut j:=Nat.lt_of_lt_of_le h.low (bT h.mono (bI j));rcases Nat.lt_or_ge j i with hj2|hj2
  ·rw[List.getElem?_set_ne (by omega)] at hy';rw[if_pos (by omega),if_pos (by omega)];exact hR _ _ _ _ _ _ (hg _ _ hgj) (h'.done j x' y' hj2 hx' hy')
  ·obtain rfl:j=i:=(by omega);rw[if_pos (aq _),if_neg (by omega)];rw[hx] at hx';obtain rfl:=Option.some.inj hx';have hDl:j<D.length:=(by rw[h.len];exact hi);rw[List.getElem?_set_self hDl] at hy';obtain rfl:=Option.some.inj hy';exact hR _ _ _ _ _ _ (hg _ _ hgj) (hW _ _ _ _ _ _ _ ht (aq _) hy)
theorem ti (R:Nat->Nat->World->(bj × bB)->(bj × bB)->Prop) (hRS:e7 R) (hRW:me R) (gT:Nat) (egT:∀ args w,(callFunc gT args).run Tryz.prog w=.ok (.enter gT args) w) (v:Value) (l:List (bj × bB)) (w:World) (hR:RowV az 6 w.heap.size w v l) (hl:l.length<=1000000)
 (hT:∀ W,Below w.heap.size w W->∀ x∈l,Calls Tryz.prog gT #[.agg (az x).toArray] W fun e w'=>∃ y,e=.returned (.agg (az y).toArray)/\R W.heap.size w'.heap.size w' x y/\Below W.heap.size W w'):
 Calls Tryz.prog 59 #[v,.func (.func gT) #[] #[]] w fun e w'=>EachV az 6 53 R l w e w':=by
 have HC:=aa (oz v l w hR hl);obtain⟨va,vn,vc,rfl⟩:∃ a n c,v=.slice a n c:=by obtain⟨A,cap,hv,_⟩:=hR;exact⟨A,_,cap,hv⟩
 have HT:=aa hT;obtain⟨n,hn⟩:=ac l.length;have HN:=aa hn;unfold fB at HC;rw[hn] at hl HC;clear hR hT hn;by_cases h0:0<n
 ·go_enter Tryz.func59,Tryz.ntmps59;(go_wp2_with fail);refine HC.out.mono ?_;rintro e w1 ⟨A,cap,rfl,b1,h1⟩;obtain⟨g,rfl,hge,hrow⟩:=h1 h0;have HB1:=aa b1;have HGE:=aa hge;have HS1:Hid (EachR az 6 53 R l g 0 l (fun _=>w1.heap.size) w1):=EachR.start hrow;clear HC b1 h1 hge hrow;go_wp2_with fail
  go_loopw [6,7,12] (fun xv yv iv wr=>∃ (u6 u7:Value) (i:Nat) (D:List (bj × bB)) (cut:Nat->Nat),xv=u6/\yv=u7/\iv=.int .i64 (i:Nat)/\i<=n/\Hid (EachR az 6 53 R l g i D cut wr)/\Hid (Below w.heap.size w wr)) (fun _ _ iv _=>n-(intOf iv).toNat)
  case atStart=>exact⟨_,_,0,l,_,rfl,rfl,rfl,bI _,HS1.out,HB1.out⟩
  case round=>
   clear HS1 HB1;obtain⟨u6,u7,i,D,cut,hu6,hu7,rfl,hi,HE,BW⟩:=hrel;have hu62:=hu6.symm;have hu72:=hu7.symm;clear hu6 hu7;subst hu62 hu72;by_cases hin:i<n
   ·have hiz:(i:Int)<(n:Int):=(by omega);have hi00:(0:Int)<=(i:Int):=(by omega);obtain⟨x,hx⟩:∃ p,l[i]?=some p:=⟨_,aQ (by rw[HN.out];exact hin)⟩;have HX:=aa hx;have HMX:Hid (x∈l):=fA hx;have hdx:D[i]?=some x:=(by rw[HE.out.rest i (aq _)];exact hx);have CC:=(fun c u hu=>(HE.out.row.cell hdx (c:=c) (u:=u) hu).1);have HF:=(fun (W:World) (hW:Below w.heap.size w W)=>HT.out W hW x HMX.out);have HFR:Hid (∀ c,c<6->∃ u,wr.cell? ⟨g,i*6+c,none⟩=some u):=(fun c hc=>⟨_,CC c _ (aQ (show c<(az x).length from hc))⟩);have HNX:=(fun (W W':World) (y:bj × bB) (h1:EachR az 6 53 R l g i D cut W) (hb:Below W.heap.size W W') (hy:R W.heap.size W'.heap.size W' x y)=>EachR.next (enc:=az) (k:=6) hRS hRW (fun _=>rfl) h1 hb (by rw[HN.out];exact hin) hx hy);obtain⟨P,hP⟩:=ac (i*6);rw[hP] at CC HFR HNX;have HPH:=aa hP;clear hx hdx;obtain⟨x',hxx⟩:∃ x',x=x':=⟨_,rfl⟩;have HXX:=aa hxx;rw[hxx] at CC HF HNX;clear hxx;obtain⟨⟨xj,xm,xg,xs,xk,xa⟩,xA,xn,xc⟩:=x';obtain⟨xJ,hxJ⟩:=ac (ae xj);obtain⟨xM,hxM⟩:=ac (ae xm);have ex:az (⟨⟨xj,xm,xg,xs,xk,xa⟩,xA,xn,xc⟩:bj × bB)=[.string xJ,.string xM,.slice xA xn xc,.int .i64 xs,.bool xk,.bool xa]:=(by rw[<-hxJ];rw[<-hxM];rfl);rw[ex] at CC HF;clear ex hxJ hxM;have p0:wr.cell? ⟨g,P,none⟩=some (.string xJ):=CC 0 _ rfl;have p1:wr.cell? ⟨g,P+1,none⟩=some (.string xM):=CC 1 _ rfl;have p2:wr.cell? ⟨g,P+2,none⟩=some (.slice xA xn xc):=CC 2 _ rfl;have p3:wr.cell? ⟨g,P+3,none⟩=some (.int .i64 xs):=CC 3 _ rfl;have p4:wr.cell? ⟨g,P+4,none⟩=some (.bool xk):=CC 4 _ rfl;have p5:wr.cell? ⟨g,P+5,none⟩=some (.bool xa):=CC 5 _ rfl;obtain⟨W3,hW3⟩:=ac (wr.alloc (.cells #[.string ⟨#[]⟩,.string ⟨#[]⟩,.slice none 0 0,.int .i64 0,.bool false,.bool false] 53));obtain⟨p,hp⟩:=ac wr.heap.size;have K3:Hid (Bk W3 p 53 #[.string ⟨#[]⟩,.string ⟨#[]⟩,.slice none 0 0,.int .i64 0,.bool false,.bool false]):=(by rw[<-hW3,<-hp];exact Bk.new _ _ _);have b3:Below wr.heap.size wr W3:=(by rw[<-hW3];exact bp _ _);have HPW:Hid (wr.heap.size<=p):=(by rw[<-hp];exact aq _);have z0:W3.cell? ⟨p,0,none⟩=some (.string ⟨#[]⟩):=K3.out.cell 0;have zf0:W3.frozen? ⟨p,0,none⟩=false:=K3.out.free 0;have z1:W3.cell? ⟨p,1,none⟩=some (.string ⟨#[]⟩):=K3.out.cell 1;have zf1:W3.frozen? ⟨p,1,none⟩=false:=K3.out.free 1;have z2:W3.cell? ⟨p,2,none⟩=some (.slice none 0 0):=K3.out.cell 2;have zf2:W3.frozen? ⟨p,2,none⟩=false:=K3.out.free 2;have z3:W3.cell? ⟨p,3,none⟩=some (.int .i64 0):=K3.out.cell 3;have zf3:W3.frozen? ⟨p,3,none⟩=false:=K3.out.free 3;have z4:W3.cell? ⟨p,4,none⟩=some (.bool false):=K3.out.cell 4;have zf4:W3.frozen? ⟨p,4,none⟩=false:=K3.out.free 4;have z5:W3.cell? ⟨p,5,none⟩=some (.bool false):=K3.out.cell 5;have zf5:W3.frozen? ⟨p,5,none⟩=false:=K3.out.free 5;have K4:=aa (bs K3.out (.string xJ) (.string xM) (.slice xA xn xc) (.int .i64 xs) (.bool xk) (.bool xa));have B34:=aa (aF b3 HPW.out (.string xJ) (.string xM) (.slice xA xn xc) (.int .i64 xs) (.bool xk) (.bool xa));obtain⟨w4,hw4⟩:=ac (cL W3 p (.string xJ) (.string xM) (.slice xA xn xc) (.int .i64 xs) (.bool xk) (.bool xa));rw[hw4] at K4 B34;have HNX2:=aa HNX;have B4:Hid (Below w.heap.size w w4):=BW.out.trans (B34.out.mono BW.out.size);have HF4:=aa (HF w4 B4.out);have HE4:=aa (HE.out.below hRS B34.out);have HGW:Hid (g<wr.heap.size):=HE.out.row.lt;clear b3 HF CC HNX;(go_upto_region 5 with fail);(try rw[hw4]);clear hW3 hw4 z0 zf0 p0 z1 zf1 p1 z2 zf2 p2 z3 zf3 p3 z4 zf4 p4 z5 zf5 p5;have e0:w4.cell? ⟨p,0,none⟩=some (.string xJ):=K4.out.cell 0;have e1:w4.cell? ⟨p,1,none⟩=some (.string xM):=K4.out.cell 1;have e2:w4.cell? ⟨p,2,none⟩=some (.slice xA xn xc):=K4.out.cell 2;have e3:w4.cell? ⟨p,3,none⟩=some (.int .i64 xs):=K4.out.cell 3;have e4:w4.cell? ⟨p,4,none⟩=some (.bool xk):=K4.out.cell 4;have e5:w4.cell? ⟨p,5,none⟩=some (.bool xa):=K4.out.cell 5;(go_wp2_with fail);refine HF4.out.mono ?_;rintro e w5 ⟨y,rfl,hRy,b5⟩;have HRY:=aa hRy;have B5:=aa b5;have S6:=aa (HNX2.out w4 w5 y HE4.out B5.out HRY.out);have HFZ:Hid (∀ c,c<6->(∃ u,w5.cell? ⟨g,P+c,none⟩=some u)/\w5.frozen? ⟨g,P+c,none⟩=false):=fun c hc=>by
     obtain⟨u,hu⟩:=HFR.out c hc;have hg4:g<w4.heap.size:=Nat.lt_of_lt_of_le HGW.out B34.out.size;refine⟨⟨u,?_⟩,?_⟩
     ·rw[B5.out.cell (p:=⟨g,P+c,none⟩) hg4,B34.out.cell (p:=⟨g,P+c,none⟩) HGW.out];exact hu
     ·have hr:=(HE4.out.below hRS B5.out).row;obtain⟨cur,hk,_⟩:=hr;exact hk.free _
    clear hRy b5 HRY;obtain⟨n0,d0⟩:∃ u,w5.cell? ⟨g,P,none⟩=some u:=(HFZ.out 0 (by decide)).1;have f0:w5.frozen? ⟨g,P,none⟩=false:=(HFZ.out 0 (by decide)).2;obtain⟨n1,d1⟩:∃ u,w5.cell? ⟨g,P+1,none⟩=some u:=(HFZ.out 1 (by decide)).1;have f1:w5.frozen? ⟨g,P+1,none⟩=false:=(HFZ.out 1 (by decide)).2;obtain⟨n2,d2⟩:∃ u,w5.cell? ⟨g,P+2,none⟩=some u:=(HFZ.out 2 (by decide)).1;have f2:w5.frozen? ⟨g,P+2,none⟩=false:=(HFZ.out 2 (by decide)).2;obtain⟨n3,d3⟩:∃ u,w5.cell? ⟨g,P+3,none⟩=some u:=(HFZ.out 3 (by decide)).1;have f3:w5.frozen? ⟨g,P+3,none⟩=false:=(HFZ.out 3 (by decide)).2;obtain⟨n4,d4⟩:∃ u,w5.cell? ⟨g,P+4,none⟩=some u:=(HFZ.out 4 (by decide)).1;have f4:w5.frozen? ⟨g,P+4,none⟩=false:=(HFZ.out 4 (by decide)).2;obtain⟨n5,d5⟩:∃ u,w5.cell? ⟨g,P+5,none⟩=some u:=(HFZ.out 5 (by decide)).1;have f5:w5.frozen? ⟨g,P+5,none⟩=false:=(HFZ.out 5 (by decide)).2;clear HFZ e0 e1 e2 e3 e4 e5;obtain⟨y',hyy⟩:∃ y',y=y':=⟨_,rfl⟩;rw[hyy] at S6 ⊢;clear hyy;obtain⟨⟨yj,ym,yg,ys,yk,ya⟩,yA,yn,yc⟩:=y';obtain⟨yJ,hyJ⟩:=ac (ae yj);obtain⟨yM,hyM⟩:=ac (ae ym);have ey:az (⟨⟨yj,ym,yg,ys,yk,ya⟩,yA,yn,yc⟩:bj × bB)=[.string yJ,.string yM,.slice yA yn yc,.int .i64 ys,.bool yk,.bool ya]:=(by rw[<-hyJ];rw[<-hyM];rfl);have B6:Hid (Below w.heap.size w (w5.setCells g P [.string yJ,.string yM,.slice yA yn yc,.int .i64 ys,.bool yk,.bool ya])):=(by have h1:Below w.heap.size w w5:=B4.out.trans (B5.out.mono B4.out.size);exact cN g HGE.out [.string yJ,.string yM,.slice yA yn yc,.int .i64 ys,.bool yk,.bool ya] P w5 h1);have HAG:Hid ((az (⟨⟨yj,ym,yg,ys,yk,ya⟩,yA,yn,yc⟩:bj × bB)).toArray=#[.string yJ,.string yM,.slice yA yn yc,.int .i64 ys,.bool yk,.bool ya]):=(by unfold Hid;rw[ey]);rw[ey] at S6;clear ey hyJ hyM;rw[HAG.out];(go_wp2_with fail);go_roundw;case rel=>exact⟨_,_,i+1,_,_,rfl,rfl,by go_num,by omega,S6,B6⟩
    case measure=>simp[intOf];omega
   ·have hiz:¬ (i:Int)<(n:Int):=(by omega);(go_wp2_with fail);go_ret;have hin2:i=n:=by omega
    subst hin2;exact⟨some ⟨g,0,none⟩,cap,D,by rw[HN.out];rfl,HE.out.len,BW.out,fun _=>⟨g,cut,rfl,HGE.out,HE.out.row,HE.out.low,HE.out.mono,by rw[HN.out];exact HE.out.top,fun j x y hx hy=>HE.out.done j x y (by have:=(cD hx).1;rw[HN.out] at this;exact this) hx hy⟩⟩
 ·obtain rfl:n=0:=(by omega);go_enter Tryz.func59,Tryz.ntmps59;(go_wp2_with fail);refine HC.out.mono ?_;rintro e w1 ⟨A,cap,rfl,b1,_⟩;clear HC;go_wp2_with fail
  go_loopw [6,7,12] (fun xv yv iv wr=>∃ (u6 u7:Value),xv=u6/\yv=u7/\iv=.int .i64 0/\wr=w1) (fun _ _ _ _=>0)
  case atStart=>exact⟨_,_,rfl,rfl,rfl,rfl⟩
  case round=>obtain⟨u6,u7,hu6,hu7,rfl,rfl⟩:=hrel;(go_wp2_with fail);go_ret;exact⟨A,cap,[],by rw[HN.out];rfl,by rw[HN.out];rfl,b1,fun h=>absurd h (by rw[HN.out];exact Nat.lt_irrefl _)⟩
theorem mi (R:Nat->Nat->World->(bk)->(bk)->Prop) (hRS:e7 R) (hRW:me R) (gT:Nat) (egT:∀ args w,(callFunc gT args).run Tryz.prog w=.ok (.enter gT args) w) (v:Value) (l:List (bk)) (w:World) (hR:RowV ao 4 w.heap.size w v l) (hl:l.length<=1000000)
 (hT:∀ W,Below w.heap.size w W->∀ x∈l,Calls Tryz.prog gT #[.agg (ao x).toArray] W fun e w'=>∃ y,e=.returned (.agg (ao y).toArray)/\R W.heap.size w'.heap.size w' x y/\Below W.heap.size W w'):
 Calls Tryz.prog 63 #[v,.func (.func gT) #[] #[]] w fun e w'=>EachV ao 4 28 R l w e w':=by
 have HC:=aa (js v l w hR hl);obtain⟨va,vn,vc,rfl⟩:∃ a n c,v=.slice a n c:=by obtain⟨A,cap,hv,_⟩:=hR;exact⟨A,_,cap,hv⟩
 have HT:=aa hT;obtain⟨n,hn⟩:=ac l.length;have HN:=aa hn;unfold fB at HC;rw[hn] at hl HC;clear hR hT hn;by_cases h0:0<n
 ·go_enter Tryz.func63,Tryz.ntmps63;(go_wp2_with fail);refine HC.out.mono ?_;rintro e w1 ⟨A,cap,rfl,b1,h1⟩;obtain⟨g,rfl,hge,hrow⟩:=h1 h0;have HB1:=aa b1;have HGE:=aa hge;have HS1:Hid (EachR ao 4 28 R l g 0 l (fun _=>w1.heap.size) w1):=EachR.start hrow;clear HC b1 h1 hge hrow;go_wp2_with fail
  go_loopw [6,7,12] (fun xv yv iv wr=>∃ (u6 u7:Value) (i:Nat) (D:List (bk)) (cut:Nat->Nat),xv=u6/\yv=u7/\iv=.int .i64 (i:Nat)/\i<=n/\Hid (EachR ao 4 28 R l g i D cut wr)/\Hid (Below w.heap.size w wr)) (fun _ _ iv _=>n-(intOf iv).toNat)
  case atStart=>exact⟨_,_,0,l,_,rfl,rfl,rfl,bI _,HS1.out,HB1.out⟩
  case round=>
   clear HS1 HB1;obtain⟨u6,u7,i,D,cut,hu6,hu7,rfl,hi,HE,BW⟩:=hrel;have hu62:=hu6.symm;have hu72:=hu7.symm;clear hu6 hu7;subst hu62 hu72;by_cases hin:i<n
   ·have hiz:(i:Int)<(n:Int):=(by omega);have hi00:(0:Int)<=(i:Int):=(by omega);obtain⟨x,hx⟩:∃ p,l[i]?=some p:=⟨_,aQ (by rw[HN.out];exact hin)⟩;have HX:=aa hx;have HMX:Hid (x∈l):=fA hx;have hdx:D[i]?=some x:=(by rw[HE.out.rest i (aq _)];exact hx);have CC:=(fun c u hu=>(HE.out.row.cell hdx (c:=c) (u:=u) hu).1);have HF:=(fun (W:World) (hW:Below w.heap.size w W)=>HT.out W hW x HMX.out);have HFR:Hid (∀ c,c<4->∃ u,wr.cell? ⟨g,i*4+c,none⟩=some u):=(fun c hc=>⟨_,CC c _ (aQ (show c<(ao x).length from hc))⟩);have HNX:=(fun (W W':World) (y:bk) (h1:EachR ao 4 28 R l g i D cut W) (hb:Below W.heap.size W W') (hy:R W.heap.size W'.heap.size W' x y)=>EachR.next (enc:=ao) (k:=4) hRS hRW (fun _=>rfl) h1 hb (by rw[HN.out];exact hin) hx hy);obtain⟨P,hP⟩:=ac (i*4);rw[hP] at CC HFR HNX;have HPH:=aa hP;clear hx hdx;obtain⟨x',hxx⟩:∃ x',x=x':=⟨_,rfl⟩;have HXX:=aa hxx;rw[hxx] at CC HF HNX;clear hxx;obtain⟨xj,xm,xis,⟨xA,xn,xc⟩,xps,⟨xD,xe,xf⟩⟩:=x';obtain⟨xJ,hxJ⟩:=ac (ae xj);obtain⟨xM,hxM⟩:=ac (ae xm);have ex:ao (⟨xj,xm,xis,⟨xA,xn,xc⟩,xps,⟨xD,xe,xf⟩⟩:bk)=[.string xJ,.string xM,.slice xA xn xc,.slice xD xe xf]:=(by rw[<-hxJ];rw[<-hxM];rfl);rw[ex] at CC HF;clear ex hxJ hxM;have p0:wr.cell? ⟨g,P,none⟩=some (.string xJ):=CC 0 _ rfl;have p1:wr.cell? ⟨g,P+1,none⟩=some (.string xM):=CC 1 _ rfl;have p2:wr.cell? ⟨g,P+2,none⟩=some (.slice xA xn xc):=CC 2 _ rfl;have p3:wr.cell? ⟨g,P+3,none⟩=some (.slice xD xe xf):=CC 3 _ rfl;obtain⟨W3,hW3⟩:=ac (wr.alloc (.cells #[.string ⟨#[]⟩,.string ⟨#[]⟩,.slice none 0 0,.slice none 0 0] 28));obtain⟨p,hp⟩:=ac wr.heap.size;have K3:Hid (Bk W3 p 28 #[.string ⟨#[]⟩,.string ⟨#[]⟩,.slice none 0 0,.slice none 0 0]):=(by rw[<-hW3,<-hp];exact Bk.new _ _ _);have b3:Below wr.heap.size wr W3:=(by rw[<-hW3];exact bp _ _);have HPW:Hid (wr.heap.size<=p):=(by rw[<-hp];exact aq _);have z0:W3.cell? ⟨p,0,none⟩=some (.string ⟨#[]⟩):=K3.out.cell 0;have zf0:W3.frozen? ⟨p,0,none⟩=false:=K3.out.free 0;have z1:W3.cell? ⟨p,1,none⟩=some (.string ⟨#[]⟩):=K3.out.cell 1;have zf1:W3.frozen? ⟨p,1,none⟩=false:=K3.out.free 1;have z2:W3.cell? ⟨p,2,none⟩=some (.slice none 0 0):=K3.out.cell 2;have zf2:W3.frozen? ⟨p,2,none⟩=false:=K3.out.free 2;have z3:W3.cell? ⟨p,3,none⟩=some (.slice none 0 0):=K3.out.cell 3;have zf3:W3.frozen? ⟨p,3,none⟩=false:=K3.out.free 3;have K4:=aa (bM K3.out (.string xJ) (.string xM) (.slice xA xn xc) (.slice xD xe xf));have B34:=aa (aW b3 HPW.out (.string xJ) (.string xM) (.slice xA xn xc) (.slice xD xe xf));obtain⟨w4,hw4⟩:=ac (bP W3 p (.string xJ) (.string xM) (.slice xA xn xc) (.slice xD xe xf));rw[hw4] at K4 B34;have HNX2:=aa HNX;have B4:Hid (Below w.heap.size w w4):=BW.out.trans (B34.out.mono BW.out.size);have HF4:=aa (HF w4 B4.out);have HE4:=aa (HE.out.below hRS B34.out);have HGW:Hid (g<wr.heap.size):=HE.out.row.lt;clear b3 HF CC HNX;(go_upto_region 5 with fail);(try rw[hw4]);clear hW3 hw4 z0 zf0 p0 z1 zf1 p1 z2 zf2 p2 z3 zf3 p3;have e0:w4.cell? ⟨p,0,none⟩=some (.string xJ):=K4.out.cell 0;have e1:w4.cell? ⟨p,1,none⟩=some (.string xM):=K4.out.cell 1;have e2:w4.cell? ⟨p,2,none⟩=some (.slice xA xn xc):=K4.out.cell 2;have e3:w4.cell? ⟨p,3,none⟩=some (.slice xD xe xf):=K4.out.cell 3;(go_wp2_with fail);refine HF4.out.mono ?_;rintro e w5 ⟨y,rfl,hRy,b5⟩;have HRY:=aa hRy;have B5:=aa b5;have S6:=aa (HNX2.out w4 w5 y HE4.out B5.out HRY.out);have HFZ:Hid (∀ c,c<4->(∃ u,w5.cell? ⟨g,P+c,none⟩=some u)/\w5.frozen? ⟨g,P+c,none⟩=false):=fun c hc=>by
     obtain⟨u,hu⟩:=HFR.out c hc;have hg4:g<w4.heap.size:=Nat.lt_of_lt_of_le HGW.out B34.out.size;refine⟨⟨u,?_⟩,?_⟩
     ·rw[B5.out.cell (p:=⟨g,P+c,none⟩) hg4,B34.out.cell (p:=⟨g,P+c,none⟩) HGW.out];exact hu
     ·have hr:=(HE4.out.below hRS B5.out).row;obtain⟨cur,hk,_⟩:=hr;exact hk.free _
    clear hRy b5 HRY;obtain⟨n0,d0⟩:∃ u,w5.cell? ⟨g,P,none⟩=some u:=(HFZ.out 0 (by decide)).1;have f0:w5.frozen? ⟨g,P,none⟩=false:=(HFZ.out 0 (by decide)).2;obtain⟨n1,d1⟩:∃ u,w5.cell? ⟨g,P+1,none⟩=some u:=(HFZ.out 1 (by decide)).1;have f1:w5.frozen? ⟨g,P+1,none⟩=false:=(HFZ.out 1 (by decide)).2;obtain⟨n2,d2⟩:∃ u,w5.cell? ⟨g,P+2,none⟩=some u:=(HFZ.out 2 (by decide)).1;have f2:w5.frozen? ⟨g,P+2,none⟩=false:=(HFZ.out 2 (by decide)).2;obtain⟨n3,d3⟩:∃ u,w5.cell? ⟨g,P+3,none⟩=some u:=(HFZ.out 3 (by decide)).1;have f3:w5.frozen? ⟨g,P+3,none⟩=false:=(HFZ.out 3 (by decide)).2;clear HFZ e0 e1 e2 e3;obtain⟨y',hyy⟩:∃ y',y=y':=⟨_,rfl⟩;rw[hyy] at S6 ⊢;clear hyy;obtain⟨yj,ym,yis,⟨yA,yn,yc⟩,yps,⟨yD,ye,yf⟩⟩:=y';obtain⟨yJ,hyJ⟩:=ac (ae yj);obtain⟨yM,hyM⟩:=ac (ae ym);have ey:ao (⟨yj,ym,yis,⟨yA,yn,yc⟩,yps,⟨yD,ye,yf⟩⟩:bk)=[.string yJ,.string yM,.slice yA yn yc,.slice yD ye yf]:=(by rw[<-hyJ];rw[<-hyM];rfl);have B6:Hid (Below w.heap.size w (w5.setCells g P [.string yJ,.string yM,.slice yA yn yc,.slice yD ye yf])):=(by have h1:Below w.heap.size w w5:=B4.out.trans (B5.out.mono B4.out.size);exact cN g HGE.out [.string yJ,.string yM,.slice yA yn yc,.slice yD ye yf] P w5 h1);have HAG:Hid ((ao (⟨yj,ym,yis,⟨yA,yn,yc⟩,yps,⟨yD,ye,yf⟩⟩:bk)).toArray=#[.string yJ,.string yM,.slice yA yn yc,.slice yD ye yf]):=(by unfold Hid;rw[ey]);rw[ey] at S6;clear ey hyJ hyM;rw[HAG.out];(go_wp2_with fail);go_roundw;case rel=>exact⟨_,_,i+1,_,_,rfl,rfl,by go_num,by omega,S6,B6⟩
    case measure=>simp[intOf];omega
   ·have hiz:¬ (i:Int)<(n:Int):=(by omega);(go_wp2_with fail);go_ret;have hin2:i=n:=by omega
    subst hin2;exact⟨some ⟨g,0,none⟩,cap,D,by rw[HN.out];rfl,HE.out.len,BW.out,fun _=>⟨g,cut,rfl,HGE.out,HE.out.row,HE.out.low,HE.out.mono,by rw[HN.out];exact HE.out.top,fun j x y hx hy=>HE.out.done j x y (by have:=(cD hx).1;rw[HN.out] at this;exact this) hx hy⟩⟩
 ·obtain rfl:n=0:=(by omega);go_enter Tryz.func63,Tryz.ntmps63;(go_wp2_with fail);refine HC.out.mono ?_;rintro e w1 ⟨A,cap,rfl,b1,_⟩;clear HC;go_wp2_with fail
  go_loopw [6,7,12] (fun xv yv iv wr=>∃ (u6 u7:Value),xv=u6/\yv=u7/\iv=.int .i64 0/\wr=w1) (fun _ _ _ _=>0)
  case atStart=>exact⟨_,_,rfl,rfl,rfl,rfl⟩
  case round=>obtain⟨u6,u7,hu6,hu7,rfl,rfl⟩:=hrel;(go_wp2_with fail);go_ret;exact⟨A,cap,[],by rw[HN.out];rfl,by rw[HN.out];rfl,b1,fun h=>absurd h (by rw[HN.out];exact Nat.lt_irrefl _)⟩
theorem mh (R:Nat->Nat->World->(aN)->(aN)->Prop) (hRS:e7 R) (hRW:me R) (gT:Nat) (egT:∀ args w,(callFunc gT args).run Tryz.prog w=.ok (.enter gT args) w) (v:Value) (l:List (aN)) (w:World) (hR:RowV aw 2 w.heap.size w v l) (hl:l.length<=1000000)
 (hT:∀ W,Below w.heap.size w W->∀ x∈l,Calls Tryz.prog gT #[.agg (aw x).toArray] W fun e w'=>∃ y,e=.returned (.agg (aw y).toArray)/\R W.heap.size w'.heap.size w' x y/\Below W.heap.size W w'):
 Calls Tryz.prog 33 #[v,.func (.func gT) #[] #[]] w fun e w'=>EachV aw 2 47 R l w e w':=by
 have HC:=aa (jr v l w hR hl);obtain⟨va,vn,vc,rfl⟩:∃ a n c,v=.slice a n c:=by obtain⟨A,cap,hv,_⟩:=hR;exact⟨A,_,cap,hv⟩
 have HT:=aa hT;obtain⟨n,hn⟩:=ac l.length;have HN:=aa hn;unfold fB at HC;rw[hn] at hl HC;clear hR hT hn;by_cases h0:0<n
 ·go_enter Tryz.func33,Tryz.ntmps33;(go_wp2_with fail);refine HC.out.mono ?_;rintro e w1 ⟨A,cap,rfl,b1,h1⟩;obtain⟨g,rfl,hge,hrow⟩:=h1 h0;have HB1:=aa b1;have HGE:=aa hge;have HS1:Hid (EachR aw 2 47 R l g 0 l (fun _=>w1.heap.size) w1):=EachR.start hrow;clear HC b1 h1 hge hrow;go_wp2_with fail
  go_loopw [6,7,12] (fun xv yv iv wr=>∃ (u6 u7:Value) (i:Nat) (D:List (aN)) (cut:Nat->Nat),xv=u6/\yv=u7/\iv=.int .i64 (i:Nat)/\i<=n/\Hid (EachR aw 2 47 R l g i D cut wr)/\Hid (Below w.heap.size w wr)) (fun _ _ iv _=>n-(intOf iv).toNat)
  case atStart=>exact⟨_,_,0,l,_,rfl,rfl,rfl,bI _,HS1.out,HB1.out⟩
  case round=>
   clear HS1 HB1;obtain⟨u6,u7,i,D,cut,hu6,hu7,rfl,hi,HE,BW⟩:=hrel;have hu62:=hu6.symm;have hu72:=hu7.symm;clear hu6 hu7;subst hu62 hu72;by_cases hin:i<n
   ·have hiz:(i:Int)<(n:Int):=(by omega);have hi00:(0:Int)<=(i:Int):=(by omega);obtain⟨x,hx⟩:∃ p,l[i]?=some p:=⟨_,aQ (by rw[HN.out];exact hin)⟩;have HX:=aa hx;have HMX:Hid (x∈l):=fA hx;have hdx:D[i]?=some x:=(by rw[HE.out.rest i (aq _)];exact hx);have CC:=(fun c u hu=>(HE.out.row.cell hdx (c:=c) (u:=u) hu).1);have HF:=(fun (W:World) (hW:Below w.heap.size w W)=>HT.out W hW x HMX.out);have HFR:Hid (∀ c,c<2->∃ u,wr.cell? ⟨g,i*2+c,none⟩=some u):=(fun c hc=>⟨_,CC c _ (aQ (show c<(aw x).length from hc))⟩);have HNX:=(fun (W W':World) (y:aN) (h1:EachR aw 2 47 R l g i D cut W) (hb:Below W.heap.size W W') (hy:R W.heap.size W'.heap.size W' x y)=>EachR.next (enc:=aw) (k:=2) hRS hRW (fun _=>rfl) h1 hb (by rw[HN.out];exact hin) hx hy);obtain⟨P,hP⟩:=ac (i*2);rw[hP] at CC HFR HNX;have HPH:=aa hP;clear hx hdx;obtain⟨x',hxx⟩:∃ x',x=x':=⟨_,rfl⟩;have HXX:=aa hxx;rw[hxx] at CC HF HNX;clear hxx;obtain⟨xj,xus,xA,xn,xc⟩:=x';obtain⟨xJ,hxJ⟩:=ac (ae xj);have ex:aw (⟨xj,xus,xA,xn,xc⟩:aN)=[.string xJ,.slice xA xn xc]:=(by rw[<-hxJ];rfl);rw[ex] at CC HF;clear ex hxJ;have p0:wr.cell? ⟨g,P,none⟩=some (.string xJ):=CC 0 _ rfl;have p1:wr.cell? ⟨g,P+1,none⟩=some (.slice xA xn xc):=CC 1 _ rfl;obtain⟨W3,hW3⟩:=ac (wr.alloc (.cells #[.string ⟨#[]⟩,.slice none 0 0] 47));obtain⟨p,hp⟩:=ac wr.heap.size;have K3:Hid (Bk W3 p 47 #[.string ⟨#[]⟩,.slice none 0 0]):=(by rw[<-hW3,<-hp];exact Bk.new _ _ _);have b3:Below wr.heap.size wr W3:=(by rw[<-hW3];exact bp _ _);have HPW:Hid (wr.heap.size<=p):=(by rw[<-hp];exact aq _);have z0:W3.cell? ⟨p,0,none⟩=some (.string ⟨#[]⟩):=K3.out.cell 0;have zf0:W3.frozen? ⟨p,0,none⟩=false:=K3.out.free 0;have z1:W3.cell? ⟨p,1,none⟩=some (.slice none 0 0):=K3.out.cell 1;have zf1:W3.frozen? ⟨p,1,none⟩=false:=K3.out.free 1;have K4:=aa (dI K3.out (.string xJ) (.slice xA xn xc));have B34:=aa (cw b3 HPW.out (.string xJ) (.slice xA xn xc));obtain⟨w4,hw4⟩:=ac (dz W3 p (.string xJ) (.slice xA xn xc));rw[hw4] at K4 B34;have HNX2:=aa HNX;have B4:Hid (Below w.heap.size w w4):=BW.out.trans (B34.out.mono BW.out.size);have HF4:=aa (HF w4 B4.out);have HE4:=aa (HE.out.below hRS B34.out);have HGW:Hid (g<wr.heap.size):=HE.out.row.lt;clear b3 HF CC HNX;(go_upto_region 5 with fail);(try rw[hw4]);clear hW3 hw4 z0 zf0 p0 z1 zf1 p1;have e0:w4.cell? ⟨p,0,none⟩=some (.string xJ):=K4.out.cell 0;have e1:w4.cell? ⟨p,1,none⟩=some (.slice xA xn xc):=K4.out.cell 1;(go_wp2_with fail);refine HF4.out.mono ?_;rintro e w5 ⟨y,rfl,hRy,b5⟩;have HRY:=aa hRy;have B5:=aa b5;have S6:=aa (HNX2.out w4 w5 y HE4.out B5.out HRY.out);have HFZ:Hid (∀ c,c<2->(∃ u,w5.cell? ⟨g,P+c,none⟩=some u)/\w5.frozen? ⟨g,P+c,none⟩=false):=fun c hc=>by
     obtain⟨u,hu⟩:=HFR.out c hc;have hg4:g<w4.heap.size:=Nat.lt_of_lt_of_le HGW.out B34.out.size;refine⟨⟨u,?_⟩,?_⟩
     ·rw[B5.out.cell (p:=⟨g,P+c,none⟩) hg4,B34.out.cell (p:=⟨g,P+c,none⟩) HGW.out];exact hu
     ·have hr:=(HE4.out.below hRS B5.out).row;obtain⟨cur,hk,_⟩:=hr;exact hk.free _
    clear hRy b5 HRY;obtain⟨n0,d0⟩:∃ u,w5.cell? ⟨g,P,none⟩=some u:=(HFZ.out 0 (by decide)).1;have f0:w5.frozen? ⟨g,P,none⟩=false:=(HFZ.out 0 (by decide)).2;obtain⟨n1,d1⟩:∃ u,w5.cell? ⟨g,P+1,none⟩=some u:=(HFZ.out 1 (by decide)).1;have f1:w5.frozen? ⟨g,P+1,none⟩=false:=(HFZ.out 1 (by decide)).2;clear HFZ e0 e1;obtain⟨y',hyy⟩:∃ y',y=y':=⟨_,rfl⟩;rw[hyy] at S6 ⊢;clear hyy;obtain⟨yj,yus,yA,yn,yc⟩:=y';obtain⟨yJ,hyJ⟩:=ac (ae yj);have ey:aw (⟨yj,yus,yA,yn,yc⟩:aN)=[.string yJ,.slice yA yn yc]:=(by rw[<-hyJ];rfl);have B6:Hid (Below w.heap.size w (w5.setCells g P [.string yJ,.slice yA yn yc])):=(by have h1:Below w.heap.size w w5:=B4.out.trans (B5.out.mono B4.out.size);exact cN g HGE.out [.string yJ,.slice yA yn yc] P w5 h1);have HAG:Hid ((aw (⟨yj,yus,yA,yn,yc⟩:aN)).toArray=#[.string yJ,.slice yA yn yc]):=(by unfold Hid;rw[ey]);rw[ey] at S6;clear ey hyJ;rw[HAG.out];(go_wp2_with fail);go_roundw;case rel=>exact⟨_,_,i+1,_,_,rfl,rfl,by go_num,by omega,S6,B6⟩
    case measure=>simp[intOf];omega
   ·have hiz:¬ (i:Int)<(n:Int):=(by omega);(go_wp2_with fail);go_ret;have hin2:i=n:=by omega
    subst hin2;exact⟨some ⟨g,0,none⟩,cap,D,by rw[HN.out];rfl,HE.out.len,BW.out,fun _=>⟨g,cut,rfl,HGE.out,HE.out.row,HE.out.low,HE.out.mono,by rw[HN.out];exact HE.out.top,fun j x y hx hy=>HE.out.done j x y (by have:=(cD hx).1;rw[HN.out] at this;exact this) hx hy⟩⟩
 ·obtain rfl:n=0:=(by omega);go_enter Tryz.func33,Tryz.ntmps33;(go_wp2_with fail);refine HC.out.mono ?_;rintro e w1 ⟨A,cap,rfl,b1,_⟩;clear HC;go_wp2_with fail
  go_loopw [6,7,12] (fun xv yv iv wr=>∃ (u6 u7:Value),xv=u6/\yv=u7/\iv=.int .i64 0/\wr=w1) (fun _ _ _ _=>0)
  case atStart=>exact⟨_,_,rfl,rfl,rfl,rfl⟩
  case round=>obtain⟨u6,u7,hu6,hu7,rfl,rfl⟩:=hrel;(go_wp2_with fail);go_ret;exact⟨A,cap,[],by rw[HN.out];rfl,by rw[HN.out];rfl,b1,fun h=>absurd h (by rw[HN.out];exact Nat.lt_irrefl _)⟩
end
end Go.Proofs.YtbgaglcgennhiaaGreatDoor


import Derived.Test.YtbgaglcgennhiaaGreatDoorP31
import Derived.Test.YtbgaglcgennhiaaGreatDoorP27
import Derived.Shelf.SlicesE.Clone
namespace Go.Proofs.YtbgaglcgennhiaaGreatDoor
open Go.RowKit Go.Sort Tx Ct
def RowB {α:Type} (ai:α→List Value) (k:Nat) (t:TypeId) (W:World) (g:Nat) (l:List α):Prop :=
 ∃ cur,Bk W g t cur∧∀ i p,l[i]?=some p→∀ c u,(ai p)[c]?=some u→cur[i*k+c]?=some u
theorem fK {W W':World} {p:Addr} (h:W'.heap[p.block]?=W.heap[p.block]?):W'.cell? p=W.cell? p:=by
 unfold World.cell?;simp only[h]
theorem RowB.below {α:Type} {ai:α→List Value} {k:Nat} {t:TypeId} {W W':World} {g:Nat} {l:List α} (h:RowB ai k t W g l) (hb:Below W.heap.size W W'):RowB ai k t W' g l:=by
 obtain⟨cur,hk,hc⟩:=h
 exact⟨cur,hk.below hb hk.lt,hc⟩
theorem RowB.same {α:Type} {ai:α→List Value} {k:Nat} {t:TypeId} {W W':World} {g:Nat} {l:List α} (h:RowB ai k t W g l) (hb:W'.heap[g]?=W.heap[g]?):RowB ai k t W' g l:=by
 obtain⟨cur,hk,hc⟩:=h
 refine⟨cur,?_,hc⟩
 unfold Bk at hk ⊢;rw[hb];exact hk
theorem RowB.lt {α:Type} {ai:α→List Value} {k:Nat} {t:TypeId} {W:World} {g:Nat} {l:List α} (h:RowB ai k t W g l):g < W.heap.size:=by
 obtain⟨cur,hk,_⟩:=h
 exact hk.lt
theorem RowB.cell {α:Type} {ai:α→List Value} {k:Nat} {t:TypeId} {W:World} {g:Nat} {l:List α} (h:RowB ai k t W g l) {i:Nat} {p:α} (hi:l[i]?=some p) {c:Nat} {u:Value} (hu:(ai p)[c]?=some u):W.cell? ⟨g,i*k+c,none⟩=some u∧W.frozen? ⟨g,i*k+c,none⟩=false:=by
 obtain⟨cur,hk,hc⟩:=h
 exact⟨by rw[hk.cell];exact hc i p hi c u hu,hk.free _⟩
theorem RowB.row {α:Type} {ai:α→List Value} {k:Nat} {t:TypeId} {W:World} {g:Nat} {l:List α} (h:RowB ai k t W g l) {B:Nat} (hB:g < B) (n cap:Nat) (hn:l.length=n):RowV ai k B W (.slice (some ⟨g,0,none⟩) n cap) l:=by
 subst hn
 refine⟨_,cap,rfl,fun _=>⟨g,0,rfl,hB,fun i p hi c u hu=>?_⟩⟩
 rw[Nat.zero_add]
 exact(h.cell hi hu).1
theorem qg {t:TypeId} {g:Nat}:∀ (vs:List Value) (W:World) (cur:Array Value) (i:Nat),Bk W g t cur→Bk (W.setCells g i vs) g t (setMany cur i vs)
 | [],_,_,_,h=>h
 | v::vs,W,cur,i,h=>by
   rw[World.setCells,setMany];exact qg vs _ _ (i+1) (h.put i v)
theorem a5 (g:Nat):∀ (vs:List Value) (i:Nat) (W:World) (b:Nat),b≠g→(W.setCells g i vs).heap[b]?=W.heap[b]?
 | [],_,_,_,_=>rfl
 | v::vs,i,W,b,h=>by
   rw[World.setCells,a5 g vs (i+1) _ b h];exact Below.heap_setCell W ⟨g,i,none⟩ v b (fun e=>h (by rw[e]))
theorem cd {B:Nat} {w:World} (g:Nat) (hg:B≤g):∀ (vs:List Value) (i:Nat) (W:World),Below B w W→Below B w (W.setCells g i vs)
 | [],_,_,h=>h
 | v::vs,i,W,h=>by
   rw[World.setCells];exact cd g hg vs (i+1) _ (h.setCell (p:=⟨g,i,none⟩) hg _)
theorem bz (g:Nat):∀ (vs:List Value) (i:Nat) (W:World),(W.setCells g i vs).heap.size=W.heap.size
 | [],_,_=>rfl
 | v::vs,i,W=>by rw[World.setCells,bz g vs (i+1)];exact World.size_setCell _ _ _
theorem tq (cur:Array Value) (s:Nat) (vs:List Value) (t:Nat) (u:Value) (ht:cur[t]?=some u):(setMany cur s vs)[t]?=some (if s≤t∧t < s+vs.length then vs[t - s]! else u):=by
 have hlt:t < cur.size:=(Array.getElem?_eq_some_iff.1 ht).1;have h1:=get_setMany vs s cur t hlt;have hlt2:t < (setMany cur s vs).size:=by rw[size_setMany];exact hlt
 rw[getElem!_pos _ t hlt2,getElem!_pos cur t hlt] at h1;have hu:cur[t]=u:=(Array.getElem?_eq_some_iff.1 ht).2;rw[Array.getElem?_eq_getElem hlt2,h1,hu]
theorem RowB.put {α:Type} {ai:α→List Value} {k:Nat} {t:TypeId} {W:World} {g:Nat} {l:List α} (h:RowB ai k t W g l) (hk:∀ x,(ai x).length=k) (i:Nat) (y:α):RowB ai k t (W.setCells g (i*k) (ai y)) g (l.set i y):=by
 obtain⟨cur,hb,hc⟩:=h
 refine⟨_,qg _ _ _ _ hb,fun j p hj c u hu=>?_⟩
 have hck:c < k:=by have:=(List.getElem?_eq_some_iff.1 hu).1;rw[hk] at this;exact this
 have hjl:j < l.length:=by have:=(List.getElem?_eq_some_iff.1 hj).1;simpa using this
 have hold:=hc j l[j] (List.getElem?_eq_getElem hjl) c _ (List.getElem?_eq_getElem (by rw[hk];exact hck));rw[tq _ _ _ _ _ hold,hk];rw[List.getElem?_set] at hj
 by_cases hij:i=j
 · subst hij
   rw[if_pos rfl,if_pos hjl] at hj;obtain rfl:=Option.some.inj hj;rw[if_pos (by omega),show i*k+c - i*k=c by omega];have hcl:c < (ai y).length:=by rw[hk];exact hck
   rw[getElem!_pos _ c hcl,← hu,List.getElem?_eq_getElem hcl]
 · rw[if_neg hij] at hj
   have hp:l[j]=p:=by rw[List.getElem?_eq_getElem hjl] at hj;exact Option.some.inj hj
   have hu2:(ai l[j])[c]'(by rw[hk];exact hck)=u:=by
    have:=hu
    rw[← hp] at this;rw[List.getElem?_eq_getElem (by rw[hk];exact hck)] at this;exact Option.some.inj this
   rw[hu2,if_neg];rintro ⟨h1,h2⟩;rcases Nat.lt_or_ge i j with h | h
   · have:=Nat.mul_le_mul_right k (show i+1≤j from h)
     rw[Nat.add_mul,Nat.one_mul] at this;omega
   · have:=Nat.mul_le_mul_right k (show j+1≤i by omega)
     rw[Nat.add_mul,Nat.one_mul] at this;omega
def lV (A C:Nat) (W W':World):Prop:=∀ b,A≤b→b < C→W'.heap[b]?=W.heap[b]?
def LiveT (A C:Nat) (W:World) (v:Value) (l:List (List UInt8)):Prop :=
 ∃ AA cap,v=.slice AA l.length cap∧(0 < l.length→∃ ad:Addr,AA=some ad∧A≤ad.block∧ad.block < C∧∀ i x,l[i]?=some x→W.cell? (ad.add i)=some (.string (aa x)))
theorem LiveT.upto {A C:Nat} {W W':World} {v:Value} {l:List (List UInt8)} (h:LiveT A C W v l) (hu:lV A C W W'):LiveT A C W' v l:=by
 obtain⟨AA,cap,hv,hc⟩:=h
 refine⟨AA,cap,hv,fun h0=>?_⟩
 obtain⟨ad,ha,h1,h2,h3⟩:=hc h0
 exact⟨ad,ha,h1,h2,fun i x hi=>by rw[fK (W:=W) (p:=ad.add i) (show W'.heap[(ad.add i).block]?=W.heap[(ad.add i).block]? by rw[au];exact hu _ h1 h2)];exact h3 i x hi⟩
theorem LiveT.reads {A C:Nat} {W:World} {v:Value} {l:List (List UInt8)} (h:LiveT A C W v l) (hC:C≤W.heap.size):ReadT W.heap.size W v (ac l):=by
 have hll:(ac l).length=l.length:=List.length_map _
 obtain⟨AA,cap,hv,hc⟩:=h
 refine⟨AA,cap,by rw[hll];exact hv,fun h0=>?_⟩
 obtain⟨ad,ha,h1,h2,h3⟩:=hc (by omega)
 refine⟨ad,ha,by omega,fun i b hi=>?_⟩
 obtain⟨y,hy,rfl⟩:=cO hi
 exact h3 i y hy
theorem LiveT.of_own {A:Nat} {W:World} {v:Value} {l:List (List UInt8)} (h:OwnT A W v (ac l)):LiveT A W.heap.size W v l:=by
 have hll:(ac l).length=l.length:=List.length_map _
 obtain⟨AA,cap,hv,hc⟩:=h.reads
 rw[hll] at hv hc
 refine⟨AA,cap,hv,fun h0=>?_⟩
 obtain⟨ad,ha,h2,h3⟩:=hc h0
 refine⟨ad,ha,?_,h2,fun i x hi=>h3 i _ (by unfold ac;rw[List.getElem?_map,hi];rfl)⟩
 have h':W.ownsRow A 9 1 v (ac l).length (cS (ac l)):=h;rcases h'.2 with ⟨rfl,h00⟩ | ⟨g,cap2,cur,rfl,hg,_⟩
 · rw[hll] at h00;omega
 · have e:Value.slice (some ⟨g,0,none⟩) (ac l).length cap2=.slice AA l.length cap:=hv
   injection e with e1 e2 e3;rw[ha] at e1;injection e1 with e1;rw[← e1];exact hg
theorem LiveT.wider {A A' C C':Nat} {W:World} {v:Value} {l:List (List UInt8)} (h:LiveT A C W v l) (hA:A'≤A) (hC:C≤C'):LiveT A' C' W v l:=by
 obtain⟨AA,cap,hv,hc⟩:=h
 refine⟨AA,cap,hv,fun h0=>?_⟩
 obtain⟨ad,ha,h1,h2,h3⟩:=hc h0
 exact⟨ad,ha,by omega,by omega,h3⟩
def LiveR {α:Type} (ai:α→List Value) (k:Nat) (t:TypeId) (L:Nat→Nat→World→α→Prop) (A C:Nat) (W:World) (v:Value) (l:List α):Prop :=
 ∃ AA cap,v=.slice AA l.length cap∧(0 < l.length→∃ (g:Nat) (cut:Nat→Nat),AA=some ⟨g,0,none⟩∧A≤g∧RowB ai k t W g l∧g < cut 0∧(∀ i,cut i≤cut (i+1))∧cut l.length≤C∧∀ i y,l[i]?=some y→L (cut i) (cut (i+1)) W y)
def jj {α:Type} (L:Nat→Nat→World→α→Prop):Prop:=∀ A C W W' x,lV A C W W'→L A C W x→L A C W' x
theorem bY {cut:Nat→Nat} (h:∀ i,cut i≤cut (i+1)) {i j:Nat} (hij:i≤j):cut i≤cut j:=by
 induction hij with
 | refl=>exact Nat.le_refl _
 | step _ ih=>exact Nat.le_trans ih (h _)
theorem LiveR.upto {α:Type} {ai:α→List Value} {k:Nat} {t:TypeId} {L:Nat→Nat→World→α→Prop} (hL:jj L) {A C:Nat} {W W':World} {v:Value} {l:List α} (h:LiveR ai k t L A C W v l) (hu:lV A C W W'):LiveR ai k t L A C W' v l:=by
 obtain⟨AA,cap,hv,hc⟩:=h
 refine⟨AA,cap,hv,fun h0=>?_⟩
 obtain⟨g,cut,ha,h1,h2,h3,h4,h5,h6⟩:=hc h0
 have hm:=fun {i j:Nat} (hij:i≤j)=>bY h4 hij
 have hgC:g < C:=Nat.lt_of_lt_of_le h3 (Nat.le_trans (hm (Nat.zero_le _)) h5)
 refine⟨g,cut,ha,h1,h2.same (hu g h1 hgC),h3,h4,h5,fun i y hi=>hL _ _ _ _ _ (fun b hb1 hb2=>hu b ?_ ?_) (h6 i y hi)⟩
 · have:=hm (Nat.zero_le i);omega
 · have hil:=(List.getElem?_eq_some_iff.1 hi).1
   have:=hm (show i+1≤l.length from hil)
   omega
theorem LiveR.row {α:Type} {ai:α→List Value} {k:Nat} {t:TypeId} {L:Nat→Nat→World→α→Prop} {A C:Nat} {W:World} {v:Value} {l:List α} (h:LiveR ai k t L A C W v l) {B:Nat} (hB:C≤B):RowV ai k B W v l:=by
 obtain⟨AA,cap,rfl,hc⟩:=h
 by_cases h0:0 < l.length
 · obtain⟨g,cut,rfl,h1,h2,h3,h4,h5,_⟩:=hc h0
   have:=bY h4 (Nat.zero_le l.length)
   exact h2.row (by omega) _ cap rfl
 · exact⟨AA,cap,rfl,fun h=>absurd h h0⟩
theorem LiveR.mem {α:Type} {ai:α→List Value} {k:Nat} {t:TypeId} {L:Nat→Nat→World→α→Prop} {A C:Nat} {W:World} {v:Value} {l:List α} (h:LiveR ai k t L A C W v l) {y:α} (hy:y∈l):∃ A' C',A≤A'∧C'≤C∧L A' C' W y:=by
 obtain⟨AA,cap,rfl,hc⟩:=h
 obtain⟨i,hi,rfl⟩:=List.getElem_of_mem hy
 obtain⟨g,cut,rfl,h1,h2,h3,h4,h5,h6⟩:=hc (by omega)
 have:=bY h4 (Nat.zero_le i)
 have:=bY h4 (show i+1≤l.length from hi)
 exact⟨cut i,cut (i+1),by omega,by omega,h6 i _ (List.getElem?_eq_getElem hi)⟩
theorem LiveR.wider {α:Type} {ai:α→List Value} {k:Nat} {t:TypeId} {L:Nat→Nat→World→α→Prop} {A A' C C':Nat} {W:World} {v:Value} {l:List α} (h:LiveR ai k t L A C W v l) (hA:A'≤A) (hC:C≤C'):LiveR ai k t L A' C' W v l:=by
 obtain⟨AA,cap,hv,hc⟩:=h
 refine⟨AA,cap,hv,fun h0=>?_⟩
 obtain⟨g,cut,ha,h1,h2,h3,h4,h5,h6⟩:=hc h0
 exact⟨g,cut,ha,by omega,h2,h3,h4,by omega,h6⟩
def fW (A C:Nat) (W:World) (p:aZ × bm):Prop:=LiveT A C W (sl p.2) p.1.groups
theorem dn:jj fW:=fun _ _ _ _ _ hu h=>LiveT.upto h hu
def LiveU (A C:Nat) (W:World) (u:aC):Prop:=LiveR aq 6 53 fW A C W (sl u.iv) u.items∧LiveT A C W (sl u.pv) u.pend
theorem aI:jj LiveU:=fun _ _ _ _ _ hu h=>⟨h.1.upto dn hu,h.2.upto hu⟩
def LiveH (A C:Nat) (W:World) (h:aK):Prop:=LiveR af 4 28 LiveU A C W (sl h.uv) h.users
theorem bI:jj LiveH:=fun _ _ _ _ _ hu h=>LiveR.upto aI h hu
def LiveS (A C:Nat) (W:World) (v:Value) (l:List aK):Prop:=LiveR aA 2 47 LiveH A C W v l
theorem LiveR.readsI {A C:Nat} {W:World} {v:Value} {l:List (aZ × bm)} (h:LiveR aq 6 53 fW A C W v l) (hC:C≤W.heap.size):ReadI W.heap.size W v l :=
 ReadI.of_row (h.row hC) fun p hp=>by
  obtain⟨A',C',_,h2,h3⟩:=h.mem hp
  exact LiveT.reads h3 (by omega)
theorem LiveU.reads {A C:Nat} {W:World} {u:aC} (h:LiveU A C W u) (hC:C≤W.heap.size):InU W u:=⟨h.1.readsI hC,h.2.reads hC⟩
theorem LiveH.reads {A C:Nat} {W:World} {h:aK} (hl:LiveH A C W h) (hC:C≤W.heap.size):ReadU W (sl h.uv) h.users :=
 ⟨LiveR.row hl hC,fun p hp=>by
  obtain⟨A',C',_,h2,h3⟩:=LiveR.mem hl hp
  exact LiveU.reads h3 (by omega)⟩
theorem LiveS.reads {A C:Nat} {W:World} {v:Value} {l:List aK} (hl:LiveS A C W v l) (hC:C≤W.heap.size):ReadH W v l :=
 ⟨LiveR.row hl hC,fun p hp=>by
  obtain⟨A',C',_,h2,h3⟩:=LiveR.mem hl hp
  exact LiveH.reads h3 (by omega)⟩
def cG (u:aC):List UInt8 × List UInt8 × List aZ × List (List UInt8):=(u.name,u.pw,u.items.map (·.1),u.pend)
def cK (h:aK):List UInt8 × List (List UInt8 × List UInt8 × List aZ × List (List UInt8)):=(h.name,h.users.map cG)
def aO {α:Type} (ai:α→List Value) (L:List α):List Value:=L.flatMap ai
theorem cw {α:Type} {ai:α→List Value} {k:Nat} (hk:∀ x,(ai x).length=k):∀ L:List α,(aO ai L).length=L.length*k
 | []=>by simp[aO]
 | x::L=>by
   have e:aO ai (x::L)=ai x++aO ai L:=rfl;rw[e,List.length_append,hk,cw hk L,List.length_cons,Nat.add_mul];omega
theorem cm {α:Type} {ai:α→List Value} {k:Nat} (hk:∀ x,(ai x).length=k):∀ (L:List α) (i c:Nat) (p:α),L[i]?=some p→c < k→(aO ai L)[i*k+c]?=(ai p)[c]?
 | x::L,0,c,p,hp,hc=>by
   have e:aO ai (x::L)=ai x++aO ai L:=rfl;obtain rfl:x=p:=by simpa using hp
   rw[e,Nat.zero_mul,Nat.zero_add,List.getElem?_append_left (by rw[hk];exact hc)]
 | x::L,i+1,c,p,hp,hc=>by
   have e:aO ai (x::L)=ai x++aO ai L:=rfl;rw[e,List.getElem?_append_right (by rw[hk,Nat.add_mul];omega),hk,show (i+1)*k+c - k=i*k+c by rw[Nat.add_mul];omega];exact cm hk L i c p (by simpa using hp) hc
def gP {α:Type} (ai:α→List Value) (k:Nat) (t:TypeId) (l:List α) (w:World) (e:Ending) (w':World):Prop :=
 ∃ A cap,e=.returned (.slice A l.length cap)∧Below w.heap.size w w'∧(0 < l.length→∃ g,A=some ⟨g,0,none⟩∧w.heap.size≤g∧RowB ai k t w' g l)
theorem oS:(Tryz.prog.info? 53).map (fun i=>(i.zero,i.size,i.bytes))=some (some (.agg #[.string ⟨#[]⟩,.string ⟨#[]⟩,.slice none 0 0,.int .i64 0,.bool false,.bool false]),6,72):=by kernel_rfl
theorem vA (x:aZ × bm):∀ v∈aq x,v.oneCell'=true:=fun v hv=>by
 simp only[aq,gK,sl,List.mem_cons,List.not_mem_nil,or_false] at hv;rcases hv with rfl | rfl | rfl | rfl | rfl | rfl<;>rfl
set_option maxHeartbeats 2000000 in
set_option maxRecDepth 100000 in
theorem lX (a:Addr) (cap:Nat) (w:World):Calls Tryz.prog 92 #[.slice (some a) 0 cap] w fun e w2=>∃ A c,e=.returned (.slice A 0 c)∧Below w.heap.size w w2:=by
 obtain⟨i0,hi0,hz0,hz1,hz2⟩:=info_parts oS
 have q22:∀ (w:World) (a:Option Addr) (n c n' c':Nat),(binOp .eql 25 (.slice a n c) (.slice none n' c')).run Tryz.prog w=.ok (.bool a.isNone) w:=fun w a n c n' c'=>Lib.run_eql_slice_nil w _ _ a n c n' c' Tryz.underlying25
 go_enter Tryz.func92,Tryz.ntmps92
 go_wp2_with (at_builtin;refine wpList_append_own _ rfl _ _ 25 rfl w.heap.size 53 i0 _ 6 72 Tryz.underlying25 hi0 hz0 hz1 hz2 rfl (by decide) _ _ _ rfl (World.ownsRow_made w #[] 0 (Nat.le_refl _) (Nat.zero_le _) rfl) a 0 cap [] rfl ?qc1 ?qc2 ?qc3 ?qc4 ?qc5 ?qc6 ?_)
 case qc1=>simp
 case qc2=>intro j u hj;simp at hj
 case qc3=>intro u hu;cases hu
 case qc4=>simp
 case qc5=>simp
 case qc6=>simp
 intro v' w1 hown hgrow hnil
 go_wp2_with fail
 go_ret;have hbl:Below w.heap.size w w1:=((Below.refl _ w).alloc (Nat.le_refl _) _).grown hgrow (by simp) (by intro k hk;simp[Value.ownBlock] at hk;omega);rcases hown.2 with ⟨rfl,_⟩ | ⟨g,cap2,cur,rfl,_⟩
 · exact⟨none,0,rfl,hbl⟩
 · exact⟨some ⟨g,0,none⟩,cap2,by simp,hbl⟩
set_option maxHeartbeats 2000000 in
theorem mN (v:Value) (l:List (aZ × bm)) (w:World) (hR:RowV aq 6 w.heap.size w v l) (hl:l.length≤1000000) :
 Calls Tryz.prog 92 #[v] w fun e w'=>gP aq 6 53 l w e w':=by
 obtain⟨A,cap,rfl,hA⟩:=hR
 by_cases h0:0 < l.length
 · obtain⟨b,off,rfl,hb,hc⟩:=hA h0
   obtain⟨i0,hi0,hz0,hz1,hz2⟩:=info_parts oS
   have hk:∀ x:aZ × bm,(aq x).length=6:=fun _=>rfl
   refine(AnyE.slices_Clone Tryz.cloneItem i0 _ 6 72 hi0 hz0 hz1 hz2 rfl (by decide) Tryz.sizeOf53 b off l.length cap (aO aq l) w (by rw[cw hk]) (Nat.le_trans hl (by decide)) (by omega) (fun j u hj=>?_) (fun u hu=>?_)).mono ?_
   · have hj1:=(List.getElem?_eq_some_iff.1 hj).1
     rw[cw hk] at hj1;have hj2:j / 6 < l.length:=by omega
     have hj3:j % 6 < 6:=Nat.mod_lt _ (by decide);have hj4:j / 6*6+j % 6=j:=by omega
     have e1:=cm hk l (j / 6) (j % 6) _ (List.getElem?_eq_getElem hj2) hj3;rw[hj4,hj] at e1
     have:=hc (j / 6) _ (List.getElem?_eq_getElem hj2) (j % 6) u e1.symm
     rw[show off+j / 6*6+j % 6=off+j by omega] at this;exact this
   · obtain⟨x,_,hx⟩:=List.mem_flatMap.1 hu
     exact vA x u hx
   · rintro e w2 ⟨v',rfl,ho,hne,hbl⟩
     rcases ho.2 with ⟨rfl,_⟩ | ⟨g,cap2,cur,rfl,hge,hh,hnc,_,hcs,htk⟩
     · exact absurd rfl hne
     · refine⟨some ⟨g,0,none⟩,cap2,rfl,hbl,fun _=>⟨g,rfl,hge,cur,hh,fun i p hp c u hu=>?_⟩⟩
       have hcl:c < 6:=(List.getElem?_eq_some_iff.1 hu).1;have hil:i < l.length:=(List.getElem?_eq_some_iff.1 hp).1;have e1:=cm hk l i c p hp hcl;rw[hu] at e1;have e2:(cur.toList.take (l.length*6))[i*6+c]?=some u:=by rw[htk];exact e1
       rw[List.getElem?_take,if_pos (by omega),Array.getElem?_toList] at e2;exact e2
 · obtain rfl:l=[]:=List.length_eq_zero_iff.1 (by omega)
   cases A with
   | none =>
     refine(AnyE.slices_Clone_nil Tryz.cloneItem 0 cap w).mono ?_
     rintro e w2 ⟨rfl,rfl⟩
     exact⟨none,0,rfl,Below.refl _ _,fun h=>absurd h (by simp)⟩
   | some a =>
     refine(lX a cap w).mono ?_
     rintro e w2 ⟨A,c,rfl,hb⟩
     exact⟨A,c,rfl,hb,fun h=>absurd h (by simp)⟩
theorem nU:(Tryz.prog.info? 28).map (fun i=>(i.zero,i.size,i.bytes))=some (some (.agg #[.string ⟨#[]⟩,.string ⟨#[]⟩,.slice none 0 0,.slice none 0 0]),4,80):=by kernel_rfl
theorem vy (x:aC):∀ v∈af x,v.oneCell'=true:=fun v hv=>by
 simp only[af,sl,List.mem_cons,List.not_mem_nil,or_false] at hv;rcases hv with rfl | rfl | rfl | rfl<;>rfl
set_option maxHeartbeats 2000000 in
set_option maxRecDepth 100000 in
theorem kY (a:Addr) (cap:Nat) (w:World):Calls Tryz.prog 93 #[.slice (some a) 0 cap] w fun e w2=>∃ A c,e=.returned (.slice A 0 c)∧Below w.heap.size w w2:=by
 obtain⟨i0,hi0,hz0,hz1,hz2⟩:=info_parts nU
 have q22:∀ (w:World) (a:Option Addr) (n c n' c':Nat),(binOp .eql 45 (.slice a n c) (.slice none n' c')).run Tryz.prog w=.ok (.bool a.isNone) w:=fun w a n c n' c'=>Lib.run_eql_slice_nil w _ _ a n c n' c' Tryz.underlying45
 go_enter Tryz.func93,Tryz.ntmps93
 go_wp2_with (at_builtin;refine wpList_append_own _ rfl _ _ 45 rfl w.heap.size 28 i0 _ 4 80 Tryz.underlying45 hi0 hz0 hz1 hz2 rfl (by decide) _ _ _ rfl (World.ownsRow_made w #[] 0 (Nat.le_refl _) (Nat.zero_le _) rfl) a 0 cap [] rfl ?qc1 ?qc2 ?qc3 ?qc4 ?qc5 ?qc6 ?_)
 case qc1=>simp
 case qc2=>intro j u hj;simp at hj
 case qc3=>intro u hu;cases hu
 case qc4=>simp
 case qc5=>simp
 case qc6=>simp
 intro v' w1 hown hgrow hnil
 go_wp2_with fail
 go_ret;have hbl:Below w.heap.size w w1:=((Below.refl _ w).alloc (Nat.le_refl _) _).grown hgrow (by simp) (by intro k hk;simp[Value.ownBlock] at hk;omega);rcases hown.2 with ⟨rfl,_⟩ | ⟨g,cap2,cur,rfl,_⟩
 · exact⟨none,0,rfl,hbl⟩
 · exact⟨some ⟨g,0,none⟩,cap2,by simp,hbl⟩
set_option maxHeartbeats 2000000 in
theorem mf (v:Value) (l:List (aC)) (w:World) (hR:RowV af 4 w.heap.size w v l) (hl:l.length≤1000000) :
 Calls Tryz.prog 93 #[v] w fun e w'=>gP af 4 28 l w e w':=by
 obtain⟨A,cap,rfl,hA⟩:=hR
 by_cases h0:0 < l.length
 · obtain⟨b,off,rfl,hb,hc⟩:=hA h0
   obtain⟨i0,hi0,hz0,hz1,hz2⟩:=info_parts nU
   have hk:∀ x:aC,(af x).length=4:=fun _=>rfl
   refine(AnyE.slices_Clone Tryz.cloneUser i0 _ 4 80 hi0 hz0 hz1 hz2 rfl (by decide) Tryz.sizeOf28 b off l.length cap (aO af l) w (by rw[cw hk]) (Nat.le_trans hl (by decide)) (by omega) (fun j u hj=>?_) (fun u hu=>?_)).mono ?_
   · have hj1:=(List.getElem?_eq_some_iff.1 hj).1
     rw[cw hk] at hj1;have hj2:j / 4 < l.length:=by omega
     have hj3:j % 4 < 4:=Nat.mod_lt _ (by decide);have hj4:j / 4*4+j % 4=j:=by omega
     have e1:=cm hk l (j / 4) (j % 4) _ (List.getElem?_eq_getElem hj2) hj3;rw[hj4,hj] at e1
     have:=hc (j / 4) _ (List.getElem?_eq_getElem hj2) (j % 4) u e1.symm
     rw[show off+j / 4*4+j % 4=off+j by omega] at this;exact this
   · obtain⟨x,_,hx⟩:=List.mem_flatMap.1 hu
     exact vy x u hx
   · rintro e w2 ⟨v',rfl,ho,hne,hbl⟩
     rcases ho.2 with ⟨rfl,_⟩ | ⟨g,cap2,cur,rfl,hge,hh,hnc,_,hcs,htk⟩
     · exact absurd rfl hne
     · refine⟨some ⟨g,0,none⟩,cap2,rfl,hbl,fun _=>⟨g,rfl,hge,cur,hh,fun i p hp c u hu=>?_⟩⟩
       have hcl:c < 4:=(List.getElem?_eq_some_iff.1 hu).1;have hil:i < l.length:=(List.getElem?_eq_some_iff.1 hp).1;have e1:=cm hk l i c p hp hcl;rw[hu] at e1;have e2:(cur.toList.take (l.length*4))[i*4+c]?=some u:=by rw[htk];exact e1
       rw[List.getElem?_take,if_pos (by omega),Array.getElem?_toList] at e2;exact e2
 · obtain rfl:l=[]:=List.length_eq_zero_iff.1 (by omega)
   cases A with
   | none =>
     refine(AnyE.slices_Clone_nil Tryz.cloneUser 0 cap w).mono ?_
     rintro e w2 ⟨rfl,rfl⟩
     exact⟨none,0,rfl,Below.refl _ _,fun h=>absurd h (by simp)⟩
   | some a =>
     refine(kY a cap w).mono ?_
     rintro e w2 ⟨A,c,rfl,hb⟩
     exact⟨A,c,rfl,hb,fun h=>absurd h (by simp)⟩
theorem oM:(Tryz.prog.info? 47).map (fun i=>(i.zero,i.size,i.bytes))=some (some (.agg #[.string ⟨#[]⟩,.slice none 0 0]),2,40):=by kernel_rfl
theorem vu (x:aK):∀ v∈aA x,v.oneCell'=true:=fun v hv=>by
 simp only[aA,sl,List.mem_cons,List.not_mem_nil,or_false] at hv;rcases hv with rfl | rfl<;>rfl
set_option maxHeartbeats 2000000 in
set_option maxRecDepth 100000 in
theorem lG (a:Addr) (cap:Nat) (w:World):Calls Tryz.prog 62 #[.slice (some a) 0 cap] w fun e w2=>∃ A c,e=.returned (.slice A 0 c)∧Below w.heap.size w w2:=by
 obtain⟨i0,hi0,hz0,hz1,hz2⟩:=info_parts oM
 have q22:∀ (w:World) (a:Option Addr) (n c n' c':Nat),(binOp .eql 22 (.slice a n c) (.slice none n' c')).run Tryz.prog w=.ok (.bool a.isNone) w:=fun w a n c n' c'=>Lib.run_eql_slice_nil w _ _ a n c n' c' Tryz.underlying22
 go_enter Tryz.func62,Tryz.ntmps62
 go_wp2_with (at_builtin;refine wpList_append_own _ rfl _ _ 22 rfl w.heap.size 47 i0 _ 2 40 Tryz.underlying22 hi0 hz0 hz1 hz2 rfl (by decide) _ _ _ rfl (World.ownsRow_made w #[] 0 (Nat.le_refl _) (Nat.zero_le _) rfl) a 0 cap [] rfl ?qc1 ?qc2 ?qc3 ?qc4 ?qc5 ?qc6 ?_)
 case qc1=>simp
 case qc2=>intro j u hj;simp at hj
 case qc3=>intro u hu;cases hu
 case qc4=>simp
 case qc5=>simp
 case qc6=>simp
 intro v' w1 hown hgrow hnil
 go_wp2_with fail
 go_ret;have hbl:Below w.heap.size w w1:=((Below.refl _ w).alloc (Nat.le_refl _) _).grown hgrow (by simp) (by intro k hk;simp[Value.ownBlock] at hk;omega);rcases hown.2 with ⟨rfl,_⟩ | ⟨g,cap2,cur,rfl,_⟩
 · exact⟨none,0,rfl,hbl⟩
 · exact⟨some ⟨g,0,none⟩,cap2,by simp,hbl⟩
set_option maxHeartbeats 2000000 in
theorem mb (v:Value) (l:List (aK)) (w:World) (hR:RowV aA 2 w.heap.size w v l) (hl:l.length≤1000000) :
 Calls Tryz.prog 62 #[v] w fun e w'=>gP aA 2 47 l w e w':=by
 obtain⟨A,cap,rfl,hA⟩:=hR
 by_cases h0:0 < l.length
 · obtain⟨b,off,rfl,hb,hc⟩:=hA h0
   obtain⟨i0,hi0,hz0,hz1,hz2⟩:=info_parts oM
   have hk:∀ x:aK,(aA x).length=2:=fun _=>rfl
   refine(AnyE.slices_Clone Tryz.cloneHost i0 _ 2 40 hi0 hz0 hz1 hz2 rfl (by decide) Tryz.sizeOf47 b off l.length cap (aO aA l) w (by rw[cw hk]) (Nat.le_trans hl (by decide)) (by omega) (fun j u hj=>?_) (fun u hu=>?_)).mono ?_
   · have hj1:=(List.getElem?_eq_some_iff.1 hj).1
     rw[cw hk] at hj1;have hj2:j / 2 < l.length:=by omega
     have hj3:j % 2 < 2:=Nat.mod_lt _ (by decide);have hj4:j / 2*2+j % 2=j:=by omega
     have e1:=cm hk l (j / 2) (j % 2) _ (List.getElem?_eq_getElem hj2) hj3;rw[hj4,hj] at e1
     have:=hc (j / 2) _ (List.getElem?_eq_getElem hj2) (j % 2) u e1.symm
     rw[show off+j / 2*2+j % 2=off+j by omega] at this;exact this
   · obtain⟨x,_,hx⟩:=List.mem_flatMap.1 hu
     exact vu x u hx
   · rintro e w2 ⟨v',rfl,ho,hne,hbl⟩
     rcases ho.2 with ⟨rfl,_⟩ | ⟨g,cap2,cur,rfl,hge,hh,hnc,_,hcs,htk⟩
     · exact absurd rfl hne
     · refine⟨some ⟨g,0,none⟩,cap2,rfl,hbl,fun _=>⟨g,rfl,hge,cur,hh,fun i p hp c u hu=>?_⟩⟩
       have hcl:c < 2:=(List.getElem?_eq_some_iff.1 hu).1;have hil:i < l.length:=(List.getElem?_eq_some_iff.1 hp).1;have e1:=cm hk l i c p hp hcl;rw[hu] at e1;have e2:(cur.toList.take (l.length*2))[i*2+c]?=some u:=by rw[htk];exact e1
       rw[List.getElem?_take,if_pos (by omega),Array.getElem?_toList] at e2;exact e2
 · obtain rfl:l=[]:=List.length_eq_zero_iff.1 (by omega)
   cases A with
   | none =>
     refine(AnyE.slices_Clone_nil Tryz.cloneHost 0 cap w).mono ?_
     rintro e w2 ⟨rfl,rfl⟩
     exact⟨none,0,rfl,Below.refl _ _,fun h=>absurd h (by simp)⟩
   | some a =>
     refine(lG a cap w).mono ?_
     rintro e w2 ⟨A,c,rfl,hb⟩
     exact⟨A,c,rfl,hb,fun h=>absurd h (by simp)⟩
end Go.Proofs.YtbgaglcgennhiaaGreatDoor

import Derived.Test.YtbgaglcgennhiaaGreatDoorP24
import Derived.Test.YtbgaglcgennhiaaGreatDoorP18
section
namespace Go.Proofs.YtbgaglcgennhiaaGreatDoor
open Go.RowKit Tx Ct
structure aZ where
 jid:List UInt8
 name:List UInt8
 groups:List (List UInt8)
 sub:Int
 ask:Bool
 app:Bool
def gK (x:aZ) (gv:Value):List Value:=[.string (aa x.jid),.string (aa x.name),gv,.int .i64 x.sub,.bool x.ask,.bool x.app]
def fp (x:aZ) (gv:Value):Value:=.agg (gK x gv).toArray
def gt (s:Int) (ask app:Bool):Bool:=if s=0 then true else if s=1 then !ask else if s=2 then !app else if s=3 then !ask&&!app else false
def bL (s:List UInt8):Bool:=decide (Jd.bareL s=(s,0))
def lY (l:List (List UInt8)):Bool:=decide (l.length≤8)&&decide (l=ag l)&&!l.any (fun g=>!line g 100)
def gW (x:aZ):Bool:=bL x.jid&&line x.name 100&&lY x.groups&&gt x.sub x.ask x.app
set_option maxHeartbeats 400000 in
theorem kz (s:ByteArray) (w:World) (hT:Tabs w) (hs:s.size≤140737488355328) :
 Calls Tryz.prog 206 #[.string s] w fun e w'=>e=.returned (.bool (line s.data.toList 100))∧Below w.heap.size w w':=by
 have H:=Lib.hid (nk s 100 w hT hs);clear hT hs;go_enter Tryz.func206,Tryz.ntmps206
 go_wp2_with fail
 refine H.out.mono ?_;rintro e w1 ⟨rfl,b1⟩
 go_wp2_with fail
 go_ret
 exact⟨rfl,b1⟩
set_option maxHeartbeats 400000 in
theorem rK (s:ByteArray) (w:World) (hT:Tabs w) (hs:s.size≤140737488355328) :
 Calls Tryz.prog 235 #[.string s] w fun e w'=>e=.returned (.bool (!line s.data.toList 100))∧Below w.heap.size w w':=by
 have H:=Lib.hid (kz s w hT hs);clear hT hs;go_enter Tryz.func235,Tryz.ntmps235
 go_wp2_with fail
 refine H.out.mono ?_;rintro e w1 ⟨rfl,b1⟩
 go_wp2_with fail
 go_ret
 exact⟨rfl,b1⟩
set_option maxHeartbeats 4000000 in
theorem oo (ad:Addr) (cap n:Nat) (xs:List (List UInt8)) (hn:xs.length=n) (hl:n≤1000000) (hs:∀ x∈xs,x.length≤140737488355328) (w:World) (hT:Tabs w) (ha:ad.block < w.heap.size) (ht:∀ i b,(ac xs)[i]?=some b→w.cell? (ad.add i)=some (.string b)) :
 Calls Tryz.prog 160 #[.slice (some ad) n cap,.func (.func 235) #[] #[]] w fun e w'=>(∃ z:Int,e=.returned (.int .i64 z)∧decide (z≥0)=xs.any (fun x=>!Tx.line x 100))∧Below w.heap.size w w':=by
 have HTX:=Lib.hid ht;have HAD:=Lib.hid ha;have HN:=Lib.hid hn;have HP:=Lib.hid (fun k x (W:World) (hx:xs[k]?=some x) (hW:Below w.heap.size w W)=>rK (aa x) W (hT.below hW) (by rw[Lib.size_eq];have:=hs x (List.mem_of_getElem? hx);show x.length≤_;omega));have HH:Hid (∀ k x,xs[k]?=some x→(!Tx.line x 100)=true→xs.any (fun x=>!Tx.line x 100)=true):=fun k x hx h=>List.any_eq_true.2 ⟨x,List.mem_of_getElem? hx,h⟩
 have HM:Hid ((∀ k x,xs[k]?=some x→(!Tx.line x 100)=false)→xs.any (fun x=>!Tx.line x 100)=false):=fun h=>List.any_eq_false.2 fun x hx=>by
  obtain⟨k,hk,rfl⟩:=List.getElem_of_mem hx
  rw[h k _ (List.getElem?_eq_getElem hk)]
  decide
 obtain⟨r,hr⟩:∃ r,xs.any (fun x=>!Tx.line x 100)=r:=⟨_,rfl⟩
 rw[hr] at HH HM ⊢;have HT0:=Lib.hid hT;clear hn ht hT hs hr ha;go_enter Tryz.func160,Tryz.ntmps160
 go_wp2_with fail
 go_loopw [8] (fun i wr=>∃ k:Nat,k≤n∧i=.int .i64 k∧Hid (Below w.heap.size w wr)∧Hid (∀ j x,j < k→xs[j]?=some x→(!Tx.line x 100)=false)) (fun i _=>n - (intOf i).toNat)
 case atStart=>exact⟨0,Nat.zero_le _,rfl,Below.refl _ _,fun j x h=>absurd h (Nat.not_lt_zero _)⟩
 case round =>
  obtain⟨k,hk,rfl,BW,hno⟩:=hrel
  by_cases hlt:k < n
  · obtain⟨x,hx⟩:∃ x,xs[k]?=some x:=⟨_,List.getElem?_eq_getElem (by rw[HN.out];exact hlt)⟩
    have c0:=HTX.out k (aa x) (by unfold ac;rw[List.getElem?_map,hx];rfl);rw[← BW.out.cell (p:=ad.add k) (by rw[au];exact HAD.out)] at c0;have hp1:=HP.out k x wr hx BW.out
    obtain⟨b,hb⟩:∃ b,(!Tx.line x 100)=b:=⟨_,rfl⟩
    have hb1:(!Tx.line (aa x).data.toList 100)=b:=hb;rw[hb1] at hp1
    obtain⟨X,hX⟩:∃ X,aa x=X:=⟨_,rfl⟩
    rw[hX] at c0 hp1;have HP1:=Lib.hid hp1;have HB:=Lib.hid hb;have HX:=Lib.hid hx;clear hb hb1 hx hX hp1
    go_wp2_with fail
    refine HP1.out.mono ?_;rintro e w2 ⟨rfl,b2⟩;have B2:Hid (Below w.heap.size w w2):=BW.out.trans (b2.mono BW.out.size);clear b2;cases b with
    | true =>
      have hf:=Lib.hid (HH.out k x HX.out HB.out)
      go_wp2_with fail
      go_ret
      exact⟨⟨_,rfl,by rw[hf.out];simp⟩,B2.out⟩
    | false =>
      have hno2:Hid (∀ j y,j < k+1→xs[j]?=some y→(!Tx.line y 100)=false):=Lib.hid (fun j y hj hy=>by
       rcases Nat.lt_or_ge j k with h | h
       · exact hno.out j y h hy
       · obtain rfl:j=k:=by omega
         rw[HX.out] at hy;obtain rfl:=Option.some.inj hy;exact HB.out)
      go_wp2_with fail
      go_roundw
      case rel=>exact⟨k+1,by omega,by go_num,B2,hno2⟩
      case measure=>simp[intOf];omega
  · have hf:=Lib.hid (HM.out (fun j x hx=>hno.out j x (by have:=(List.getElem?_eq_some_iff.1 hx).1;have:=HN.out;omega) hx))
    go_wp2_with fail
    go_ret
    exact⟨⟨_,rfl,by rw[hf.out];simp⟩,BW.out⟩
set_option maxHeartbeats 400000 in
theorem jM (ad:Addr) (cap n:Nat) (xs:List (List UInt8)) (hn:xs.length=n) (hl:n≤1000000) (hs:∀ x∈xs,x.length≤140737488355328) (w:World) (hT:Tabs w) (ha:ad.block < w.heap.size) (ht:∀ i b,(ac xs)[i]?=some b→w.cell? (ad.add i)=some (.string b)) :
 Calls Tryz.prog 119 #[.slice (some ad) n cap,.func (.func 235) #[] #[]] w fun e w'=>e=.returned (.bool (xs.any (fun x=>!Tx.line x 100)))∧Below w.heap.size w w':=by
 have HI:=Lib.hid (oo ad cap n xs hn hl hs w hT ha ht)
 obtain⟨r,hr⟩:∃ r,xs.any (fun x=>!Tx.line x 100)=r:=⟨_,rfl⟩
 rw[hr] at HI ⊢;clear hs hr hn ht hT ha;go_enter Tryz.func119,Tryz.ntmps119
 go_wp2_with fail
 refine HI.out.mono ?_;rintro e w1 ⟨⟨z,rfl,hz⟩,b1⟩
 go_wp2_with fail
 go_ret
 exact⟨rfl,b1⟩
set_option maxHeartbeats 400000 in
theorem iI (A:Option Addr) (cap:Nat) (fv:Value) (w:World):Calls Tryz.prog 119 #[.slice A 0 cap,fv] w fun e w'=>e=.returned (.bool false)∧w'=w:=by
 have H:=Lib.hid (ju A cap fv w);go_enter Tryz.func119,Tryz.ntmps119
 go_wp2_with fail
 refine H.out.mono ?_;rintro e w1 ⟨rfl,rfl⟩
 go_wp2_with fail
 go_ret
 exact⟨rfl,rfl⟩
set_option maxHeartbeats 400000 in
theorem py (A C:Option Addr) (n m c d:Nat) (h:n≠m) (w:World):Calls Tryz.prog 233 #[.slice A n c,.slice C m d] w fun e w'=>e=.returned (.bool false)∧w'=w:=by
 have hne:((n:Int) != (m:Int))=true:=by simp;omega
 go_enter Tryz.func233,Tryz.ntmps233
 go_wp2_with fail
 go_ret
 exact⟨rfl,rfl⟩
theorem pJ (v u:Value) (x y:List ByteArray) (w:World) (B:Nat) (hx:ReadT B w v x) (hy:ReadT B w u y) (hl:x.length≤140737488355328) (hm:y.length≤140737488355328) :
 Calls Tryz.prog 233 #[v,u] w fun e w'=>e=.returned (.bool (decide (x=y)))∧Below w.heap.size w w':=by
 have none_of:∀ (A C:Option Addr) (c d m:Nat),m=y.length→x.length=0→Calls Tryz.prog 233 #[.slice A 0 c,.slice C m d] w fun e w'=>e=.returned (.bool (decide (x=y)))∧Below w.heap.size w w':=fun A C c d m hm2 h0=>by
  refine(Tryz.slices_Equal_string_empty A C c m d w (by omega)).mono ?_
  rintro e w' ⟨rfl,rfl⟩
  refine⟨?_,Below.refl _ _⟩
  have hx0:=List.length_eq_zero_iff.1 h0;subst hx0
  congr 2
  by_cases hy0:y=[]
  · subst hy0;simp[hm2]
  · have:m≠0:=by rw[hm2];exact fun h=>hy0 (List.length_eq_zero_iff.1 h)
    simp[this,Ne.symm hy0]
 by_cases h0:0 < x.length
 · obtain⟨b1,o1,c1,rfl,_,hc1⟩:=hx.flat h0
   by_cases h2:0 < y.length
   · obtain⟨b2,o2,c2,rfl,_,hc2⟩:=hy.flat h2
     refine(Tryz.slices_Equal_string b1 o1 x.length c1 b2 o2 y.length c2 x y w (Nat.le_refl _) (Nat.le_refl _) (by omega) (by omega) hc1 hc2).mono ?_
     rintro e w' ⟨rfl,q,rfl⟩;rw[List.take_length,List.take_length]
     exact⟨rfl,gk _ _⟩
   · obtain⟨A,c2,rfl,_⟩:=hy
     have hy0:y=[]:=List.length_eq_zero_iff.1 (by omega);subst hy0
     refine(py (some ⟨b1,o1,none⟩) A x.length 0 c1 c2 (by omega) w).mono ?_
     rintro e w' ⟨rfl,rfl⟩
     refine⟨?_,Below.refl _ _⟩
     rw[decide_eq_false (fun h:x=[]=>by rw[h] at h0;exact absurd h0 (Nat.lt_irrefl _))]
 · obtain⟨A,c1,rfl,_⟩:=hx
   obtain⟨C,c2,rfl,_⟩:=hy
   have hx0:x.length=0:=by omega
   rw[hx0];exact none_of A C c1 c2 y.length rfl hx0
set_option maxHeartbeats 1000000 in
theorem qU (s:List UInt8) (w:World) (hO:Okw w) (hs:s.length≤100000000) :
 Calls Tryz.prog 205 #[.string (aa s)] w fun e w'=>e=.returned (.bool (bL s))∧Below w.heap.size w w':=by
 have HB:=Lib.hid (mg (aa s) w hO (by rw[Lib.size_eq];show s.length≤_;omega));unfold bM at HB;rw[show (aa s).data.toList=s from rfl] at HB;have hb:bL s=decide (Jd.bareL s=(s,0)):=rfl
 obtain⟨r,hr⟩:∃ r,Jd.bareL s=r:=⟨_,rfl⟩
 rw[hr] at HB hb;have en:=cP r.1 s
 obtain⟨X,hX⟩:∃ X,aa s=X:=⟨_,rfl⟩
 obtain⟨Y,hY⟩:∃ X,(⟨r.1.toArray⟩:ByteArray)=X:=⟨_,rfl⟩
 rw[hX] at HB en ⊢;rw[hY] at HB;rw[show aa r.1=Y from hY] at en;clear hr hX hY hO
 by_cases h0:r.2=0
 · have hb2:Hid (bL s=decide (r.1=s)):=by
    unfold Hid;rw[hb]
    by_cases h1:r.1=s
    · rw[decide_eq_true h1,decide_eq_true (by rw[← h1,← h0])]
    · rw[decide_eq_false h1,decide_eq_false (fun e=>h1 (congrArg Prod.fst e))]
   rw[h0] at HB
   obtain⟨c,hc⟩:∃ c,decide (r.1=s)=c:=⟨_,rfl⟩
   rw[hc] at en hb2;clear hb h0 hc;go_enter Tryz.func205,Tryz.ntmps205
   go_wp2_with fail
   refine HB.out.mono ?_;rintro e w1 ⟨rfl,b1⟩
   go_wp2_with fail
   go_ret
   exact⟨by rw[hb2.out];rfl,b1⟩
 · have hb2:Hid (bL s=false):=by
    unfold Hid;rw[hb];exact decide_eq_false (fun e=>h0 (congrArg Prod.snd e))
   have hz:((r.2:Int)==0)=false:=by simpa using h0
   clear hb en;go_enter Tryz.func205,Tryz.ntmps205
   go_wp2_with fail
   refine HB.out.mono ?_;rintro e w1 ⟨rfl,b1⟩
   go_wp2_with fail
   go_ret
   exact⟨by rw[hb2.out];rfl,b1⟩
set_option maxHeartbeats 2000000 in
theorem tZ (v:Value) (l:List (List UInt8)) (w:World) (hT:Tabs w) (hR:ReadT w.heap.size w v (ac l)) (hl:l.length≤140737488355328) (hs:∀ g∈l,g.length≤140737488355328) :
 Calls Tryz.prog 207 #[v] w fun e w'=>e=.returned (.bool (lY l))∧Below w.heap.size w w':=by
 have hll:(ac l).length=l.length:=List.length_map _
 obtain⟨n,hn⟩:∃ n,l.length=n:=⟨_,rfl⟩
 obtain⟨A,cap,hv,hA⟩:=id hR
 rw[hll,hn] at hv;have hg:lY l=(decide (l.length≤8)&&decide (l=ag l)&&!l.any (fun g=>!line g 100)):=rfl
 by_cases h8:n≤8
 · have h8z:¬ (8:Int) < (n:Int):=by omega
   have HG:=Lib.hid (mQ v l w hR (by omega));rw[hn,decide_eq_true h8,Bool.true_and] at hg;have HQ:Hid (∀ u w1,Below w.heap.size w w1→ReadT w1.heap.size w1 u (ac (ag l))→Calls Tryz.prog 233 #[v,u] w1 fun e w'=>e=.returned (.bool (decide (l=ag l)))∧Below w1.heap.size w1 w'):=fun u w1 b1 hu=>by
    have hlen:(ag l).length≤l.length:=by
     rw[← fC l];exact Nat.le_trans (List.length_filter_le _ _) (Nat.le_trans (ii _) (by rw[List.length_mergeSort];exact Nat.le_refl _))
    have:=pJ v u (ac l) (ac (ag l)) w1 w1.heap.size ((hR.below b1).more b1.size) hu (by omega) (by unfold ac at hll ⊢;rw[List.length_map];omega)
    have e:decide (ac l=ac (ag l))=decide (l=ag l):=by
     have inj:∀ x y:List (List UInt8),ac x=ac y↔x=y:=fun x y=>⟨fun h=>by
      have:=congrArg (List.map fun b:ByteArray=>b.data.toList) h
      simpa [ac,List.map_map,Function.comp_def] using this,fun h=>by rw[h]⟩
     simp only[inj]
    rwa [e] at this
   have HCN:Hid (∀ w1,Below w.heap.size w w1→Calls Tryz.prog 119 #[v,.func (.func 235) #[] #[]] w1 fun e w'=>e=.returned (.bool (l.any (fun g=>!line g 100)))∧Below w1.heap.size w1 w'):=fun w1 b1=>by
    by_cases h0:0 < n
    · obtain⟨ad,rfl,hb,hc⟩:=hA (by omega)
      rw[hv];exact jM ad cap n l hn (by omega) hs w1 (hT.below b1) (Nat.lt_of_lt_of_le hb b1.size) (fun i b hi=>by rw[b1.cell (p:=ad.add i) (by rw[au];exact hb)];exact hc i b hi)
    · have hl0:l=[]:=List.length_eq_zero_iff.1 (by omega)
      have hn0:n=0:=by omega
      rw[hv,hn0,hl0]
      refine(iI A cap _ w1).mono ?_
      rintro e w' ⟨rfl,rfl⟩
      exact⟨rfl,Below.refl _ _⟩
   have HGR:=Lib.hid hg
   obtain⟨b1,hb1⟩:∃ b,decide (l=ag l)=b:=⟨_,rfl⟩
   obtain⟨b2,hb2⟩:∃ b,l.any (fun g=>!line g 100)=b:=⟨_,rfl⟩
   rw[hb1,hb2] at HGR;rw[hb1] at HQ;rw[hb2] at HCN;rw[hv] at HG HQ HCN ⊢;clear hg hb1 hb2 hR hA hv hT hs hll hn;go_enter Tryz.func207,Tryz.ntmps207
   go_wp2_with fail
   refine HG.out.mono ?_;rintro e w1 ⟨u,rfl,hu,bu⟩;have HQ1:=Lib.hid (HQ.out u w1 bu hu);have BU:=Lib.hid bu;clear bu hu
   go_wp2_with fail
   refine HQ1.out.mono ?_;rintro e w2 ⟨rfl,b2w⟩;have B2:Hid (Below w.heap.size w w2):=BU.out.trans (b2w.mono BU.out.size);clear b2w;cases b1 with
   | false =>
     go_wp2_with fail
     go_ret
     exact⟨by rw[HGR.out];rfl,B2.out⟩
   | true =>
     have HC1:=Lib.hid (HCN.out w2 B2.out)
     go_wp2_with fail
     refine HC1.out.mono ?_;rintro e w3 ⟨rfl,b3w⟩;have B3:Hid (Below w.heap.size w w3):=B2.out.trans (b3w.mono B2.out.size);clear b3w
     go_wp2_with fail
     go_ret
     exact⟨by rw[HGR.out];rfl,B3.out⟩
 · have h8z:(8:Int) < (n:Int):=by omega
   have hf:Hid (lY l=false):=by unfold Hid;rw[hg,hn,decide_eq_false h8,Bool.false_and,Bool.false_and]
   rw[hv];clear hg hR hA hv hT hs hll hn;go_enter Tryz.func207,Tryz.ntmps207
   go_wp2_with fail
   go_ret
   exact⟨by rw[hf.out];rfl,Below.refl _ _⟩
theorem uH (s:Int) (ask app:Bool):gt s ask app=if s=0 then true else if s=1 then !ask else if s=2 then !app else if s=3 then !ask&&!app else false:=rfl
set_option maxHeartbeats 2000000 in
theorem tw (x:aZ) (A:Option Addr) (n cap:Nat) (w:World) :
 Calls Tryz.prog 208 #[fp x (.slice A n cap)] w fun e w'=>e=.returned (.bool (gt x.sub x.ask x.app))∧Below w.heap.size w w':=by
 have hag:fp x (.slice A n cap)=.agg #[.string (aa x.jid),.string (aa x.name),.slice A n cap,.int .i64 x.sub,.bool x.ask,.bool x.app]:=rfl;rw[hag];clear hag
 obtain⟨J,hJ⟩:∃ J,aa x.jid=J:=⟨_,rfl⟩
 obtain⟨N,hN⟩:∃ J,aa x.name=J:=⟨_,rfl⟩
 obtain⟨s,hs⟩:∃ J,x.sub=J:=⟨_,rfl⟩
 obtain⟨ask,ha⟩:∃ J,x.ask=J:=⟨_,rfl⟩
 obtain⟨app,hp⟩:∃ J,x.app=J:=⟨_,rfl⟩
 rw[hJ,hN,hs,ha,hp];have hS:=uH s ask app
 obtain⟨W1,hW1⟩:∃ W1,w.alloc (.cells #[.string J,.string N,.slice A n cap,.int .i64 s,.bool ask,.bool app] 53)=W1:=⟨_,rfl⟩
 obtain⟨bx,hbx⟩:∃ bx,w.heap.size=bx:=⟨_,rfl⟩
 have K1:Bk W1 bx 53 #[.string J,.string N,.slice A n cap,.int .i64 s,.bool ask,.bool app]:=by rw[← hW1,← hbx];exact Bk.new _ _ _
 have B1:Hid (Below w.heap.size w W1):=by rw[← hW1];exact(Below.refl _ _).alloc (Nat.le_refl _) _
 have c3:W1.cell? ⟨bx,3,none⟩=some (.int .i64 s):=K1.cell 3;have c4:W1.cell? ⟨bx,4,none⟩=some (.bool ask):=K1.cell 4;have c5:W1.cell? ⟨bx,5,none⟩=some (.bool app):=K1.cell 5;have HW1:=Lib.hid hW1;have HBX:=Lib.hid hbx;clear hJ hN hs ha hp K1 hW1 hbx x
 by_cases h0:s=0
 · subst h0
   have HS:Hid (gt 0 ask app=true):=rfl;clear hS;go_enter Tryz.func208,Tryz.ntmps208
   go_upto_region 1 with fail
   rw[HW1.out,HBX.out]
   go_wp2_with fail
   go_ret
   exact⟨by rw[HS.out];rfl,B1.out⟩
 · have z0:(s==0)=false:=by simpa using h0
   rw[if_neg h0] at hS
   by_cases h1:s=1
   · subst h1
     have HS:Hid (gt 1 ask app=!ask):=rfl;clear hS h0;go_enter Tryz.func208,Tryz.ntmps208
     go_upto_region 1 with fail
     rw[HW1.out,HBX.out]
     go_wp2_with fail
     go_ret
     exact⟨by rw[HS.out];rfl,B1.out⟩
   · have z1:(s==1)=false:=by simpa using h1
     rw[if_neg h1] at hS
     by_cases h2:s=2
     · subst h2
       have HS:Hid (gt 2 ask app=!app):=rfl;clear hS h0 h1;go_enter Tryz.func208,Tryz.ntmps208
       go_upto_region 1 with fail
       rw[HW1.out,HBX.out]
       go_wp2_with fail
       go_ret
       exact⟨by rw[HS.out];rfl,B1.out⟩
     · have z2:(s==2)=false:=by simpa using h2
       rw[if_neg h2] at hS
       by_cases h3:s=3
       · subst h3
         have HS:Hid (gt 3 ask app=(!ask&&!app)):=rfl;clear hS h0 h1 h2;cases ask with
         | true =>
           go_enter Tryz.func208,Tryz.ntmps208
           go_upto_region 1 with fail
           rw[HW1.out,HBX.out]
           go_wp2_with fail
           go_ret
           exact⟨by rw[HS.out];rfl,B1.out⟩
         | false =>
           go_enter Tryz.func208,Tryz.ntmps208
           go_upto_region 1 with fail
           rw[HW1.out,HBX.out]
           go_wp2_with fail
           go_ret
           exact⟨by rw[HS.out];rfl,B1.out⟩
       · have z3:(s==3)=false:=by simpa using h3
         rw[if_neg h3] at hS;have HS:=Lib.hid hS;clear hS h0 h1 h2 h3;go_enter Tryz.func208,Tryz.ntmps208
         go_upto_region 1 with fail
         rw[HW1.out,HBX.out]
         go_wp2_with fail
         go_ret
         exact⟨by rw[HS.out];rfl,B1.out⟩
theorem kQ (A:Option Addr) (n cap:Nat) (x:aZ):fp x (.slice A n cap)=.agg #[.string (aa x.jid),.string (aa x.name),.slice A n cap,.int .i64 x.sub,.bool x.ask,.bool x.app]:=rfl
set_option maxHeartbeats 2000000 in
theorem om (x:aZ) (gv:Value) (w:World) (hO:Okw w) (hR:ReadT w.heap.size w gv (ac x.groups)) (hj:x.jid.length≤100000000) (hn:x.name.length≤140737488355328) (hl:x.groups.length≤140737488355328) (hs:∀ g∈x.groups,g.length≤140737488355328) :
 Calls Tryz.prog 168 #[fp x gv] w fun e w'=>e=.returned (.bool (gW x))∧Below w.heap.size w w':=by
 obtain⟨A,cap,hv,_⟩:=id hR
 obtain⟨n,hnn⟩:∃ n,(ac x.groups).length=n:=⟨_,rfl⟩
 rw[hnn] at hv;subst hv
 obtain⟨W1,hW1⟩:∃ W1,w.alloc (.cells #[.string (aa x.jid),.string (aa x.name),.slice A n cap,.int .i64 x.sub,.bool x.ask,.bool x.app] 53)=W1:=⟨_,rfl⟩
 obtain⟨bx,hbx⟩:∃ bx,w.heap.size=bx:=⟨_,rfl⟩
 have K1:Hid (Bk W1 bx 53 #[.string (aa x.jid),.string (aa x.name),.slice A n cap,.int .i64 x.sub,.bool x.ask,.bool x.app]):=by rw[← hW1,← hbx];exact Bk.new _ _ _
 have B1:Hid (Below w.heap.size w W1):=by rw[← hW1];exact(Below.refl _ _).alloc (Nat.le_refl _) _
 have hr:gW x=(bL x.jid&&line x.name 100&&lY x.groups&&gt x.sub x.ask x.app):=rfl;have HA:Hid (∀ W,Below w.heap.size w W→Calls Tryz.prog 205 #[.string (aa x.jid)] W fun e w'=>e=.returned (.bool (bL x.jid))∧Below W.heap.size W w'):=fun W h=>qU x.jid W (hO.below h) hj
 have HL:Hid (∀ W,Below w.heap.size w W→Calls Tryz.prog 206 #[.string (aa x.name)] W fun e w'=>e=.returned (.bool (line x.name 100))∧Below W.heap.size W w'):=fun W h=>kz (aa x.name) W (hO.tabs.below h) (by rw[Lib.size_eq];exact hn)
 have HG:Hid (∀ W,Below w.heap.size w W→Calls Tryz.prog 207 #[.slice A n cap] W fun e w'=>e=.returned (.bool (lY x.groups))∧Below W.heap.size W w'):=fun W h=>tZ _ x.groups W (hO.tabs.below h) ((hR.below h).more h.size) hl hs
 have HSB:Hid (∀ W,Calls Tryz.prog 208 #[.agg #[.string (aa x.jid),.string (aa x.name),.slice A n cap,.int .i64 x.sub,.bool x.ask,.bool x.app]] W fun e w'=>e=.returned (.bool (gt x.sub x.ask x.app))∧Below W.heap.size W w'):=fun W=>tw x A n cap W
 rw[kQ]
 obtain⟨J,hJ⟩:∃ J,aa x.jid=J:=⟨_,rfl⟩
 obtain⟨N,hN⟩:∃ J,aa x.name=J:=⟨_,rfl⟩
 obtain⟨s,hs2⟩:∃ J,x.sub=J:=⟨_,rfl⟩
 obtain⟨ask,ha⟩:∃ J,x.ask=J:=⟨_,rfl⟩
 obtain⟨app,hp⟩:∃ J,x.app=J:=⟨_,rfl⟩
 obtain⟨b1,hb1⟩:∃ b,bL x.jid=b:=⟨_,rfl⟩
 obtain⟨b2,hb2⟩:∃ b,line x.name 100=b:=⟨_,rfl⟩
 obtain⟨b3,hb3⟩:∃ b,lY x.groups=b:=⟨_,rfl⟩
 obtain⟨b4,hb4⟩:∃ b,gt x.sub x.ask x.app=b:=⟨_,rfl⟩
 rw[hb1] at HA hr;rw[hb2] at HL hr;rw[hb3] at HG hr;rw[hb4] at HSB hr;rw[hJ] at HA HSB K1 hW1 ⊢;rw[hN] at HL HSB K1 hW1 ⊢;rw[hs2,ha,hp] at HSB K1 hW1 ⊢;have HRT:=Lib.hid hr;have HW1:=Lib.hid hW1;have HBX:=Lib.hid hbx;have c0:W1.cell? ⟨bx,0,none⟩=some (.string J):=K1.out.cell 0;clear hr hW1 hbx hO hR hnn hJ hN hs2 ha hp hb1 hb2 hb3 hb4 hj hn hl hs;go_enter Tryz.func168,Tryz.ntmps168
 go_upto_region 1 with fail
 rw[HW1.out,HBX.out];have HA1:=Lib.hid (HA.out W1 B1.out)
 go_wp2_with fail
 refine HA1.out.mono ?_;rintro e w2 ⟨rfl,v2⟩;have B2:Hid (Below w.heap.size w w2):=B1.out.trans (v2.mono B1.out.size);have K2:Hid (Bk w2 bx 53 #[.string J,.string N,.slice A n cap,.int .i64 s,.bool ask,.bool app]):=K1.out.below v2 K1.out.lt;have c1:w2.cell? ⟨bx,1,none⟩=some (.string N):=K2.out.cell 1;clear v2 c0;cases b1 with
 | false =>
   go_wp2_with fail
   go_ret
   exact⟨by rw[HRT.out];rfl,B2.out⟩
 | true =>
   have HL1:=Lib.hid (HL.out w2 B2.out)
   go_wp2_with fail
   refine HL1.out.mono ?_;rintro e w3 ⟨rfl,v3⟩;have B3:Hid (Below w.heap.size w w3):=B2.out.trans (v3.mono B2.out.size);have K3:Hid (Bk w3 bx 53 #[.string J,.string N,.slice A n cap,.int .i64 s,.bool ask,.bool app]):=K2.out.below v3 K2.out.lt;have c2:w3.cell? ⟨bx,2,none⟩=some (.slice A n cap):=K3.out.cell 2;clear v3 c1;cases b2 with
   | false =>
     go_wp2_with fail
     go_ret
     exact⟨by rw[HRT.out];rfl,B3.out⟩
   | true =>
     have HG1:=Lib.hid (HG.out w3 B3.out)
     go_wp2_with fail
     refine HG1.out.mono ?_;rintro e w4 ⟨rfl,v4⟩;have B4:Hid (Below w.heap.size w w4):=B3.out.trans (v4.mono B3.out.size);have K4:Bk w4 bx 53 #[.string J,.string N,.slice A n cap,.int .i64 s,.bool ask,.bool app]:=K3.out.below v4 K3.out.lt;have d0:w4.cell? ⟨bx,0,none⟩=some (.string J):=K4.cell 0;have d1:w4.cell? ⟨bx,1,none⟩=some (.string N):=K4.cell 1;have d2:w4.cell? ⟨bx,2,none⟩=some (.slice A n cap):=K4.cell 2;have d3:w4.cell? ⟨bx,3,none⟩=some (.int .i64 s):=K4.cell 3;have d4:w4.cell? ⟨bx,4,none⟩=some (.bool ask):=K4.cell 4;have d5:w4.cell? ⟨bx,5,none⟩=some (.bool app):=K4.cell 5;clear v4 c2 K4;cases b3 with
     | false =>
       go_wp2_with fail
       go_ret
       exact⟨by rw[HRT.out];rfl,B4.out⟩
     | true =>
       go_wp2_with fail
       refine(HSB.out w4).mono ?_
       rintro e w5 ⟨rfl,v5⟩
       go_wp2_with fail
       go_ret
       exact⟨by rw[HRT.out];rfl,B4.out.trans (v5.mono B4.out.size)⟩
end Go.Proofs.YtbgaglcgennhiaaGreatDoor
end
section
namespace Go.Proofs.YtbgaglcgennhiaaGreatDoor.Ct
open Go.Proofs.YtbgaglcgennhiaaGreatDoor Tx
def cX (s:List UInt8) (k:Nat):List UInt8:=if (Jd.bareL s).2=0 then (Jd.bareL s).1 else ([[97,64,104],[98,64,104],[99,64,104],[100,64,120,46,121],[104]]:List (List UInt8)).getD (k % 5) []
theorem mn {b:UInt8} (h:Jd.fitB 1 b=true):Jd.part true 1 [b]=([b],0):=by
 show Jd.sizedL 64 (Pr.prepL 1 [b])=_;rw[Jd.fit_prep (fun x hx=>by rw[List.mem_singleton] at hx;rw[hx];exact h)]
 simp[Jd.sizedL]
theorem vZ:Jd.domL [120,46,121]=([120,46,121],0):=Jd.dom_of (Jd.fit_prep (by decide)) (by decide) (by decide) (by decide)
theorem sh (s:List UInt8) (k:Nat):Jd.bareL (cX s k)=(cX s k,0):=by
 unfold cX
 by_cases h:(Jd.bareL s).2=0
 · rw[if_pos h]
   unfold Jd.bareL at h
   by_cases hp:(Jd.parseL s).2=0
   · rw[if_pos hp] at h
     by_cases hr:(Jd.parseL s).1.2.2=[]
     · have hpe:Jd.parseL s=((Jd.parseL s).1,0):=Prod.ext rfl hp
       rw[Jd.bare_ok hpe hr];exact Jd.bare_back hpe hr
     · rw[if_neg hr] at h
       exact absurd h (by simp)
   · rw[if_neg hp] at h
     exact absurd h hp
 · rw[if_neg h]
   have hk:k % 5=0∨k % 5=1∨k % 5=2∨k % 5=3∨k % 5=4:=by omega
   have one:∀ b:UInt8,Jd.fitB 1 b=true→Jd.cutB 47 [b,64,104]=([b,64,104],[],false)→Jd.halfL [b,64,104]=([b],[104],true)→Jd.bareL [b,64,104]=([b,64,104],0):=fun b h1 h2 h3=>by
    have h:Jd.parseL [b,64,104]=(([b],[104],[]),0):=by
     rw[Jd.parse_eq (s:=[b,64,104]) (c:=([b,64,104],[],false)) (d:=([b],[104],true)) h2 h3];simp only;rw[sY,mn h1];rfl
    rw[Jd.bare_ok h rfl];rfl
   rcases hk with e | e | e | e | e
   · rw[e];exact uL
   · rw[e];exact one 98 (by decide) (by decide) (by decide)
   · rw[e];exact one 99 (by decide) (by decide) (by decide)
   · rw[e]
     show Jd.bareL [100,64,120,46,121]=([100,64,120,46,121],0);have h:Jd.parseL [100,64,120,46,121]=(([100],[120,46,121],[]),0):=by
      rw[Jd.parse_eq (s:=[100,64,120,46,121]) (c:=([100,64,120,46,121],[],false)) (d:=([100],[120,46,121],true)) (by decide) (by decide)];simp only;rw[vZ,mn (by decide)];rfl
     rw[Jd.bare_ok h rfl];rfl
   · rw[e]
     show Jd.bareL [104]=([104],0);have h:Jd.parseL [104]=(([],[104],[]),0):=by
      rw[Jd.parse_eq (s:=[104]) (c:=([104],[],false)) (d:=([],[104],false)) (by decide) (by decide)];simp only;rw[sY];rfl
     rw[Jd.bare_ok h rfl];rfl
end Go.Proofs.YtbgaglcgennhiaaGreatDoor.Ct
end
section
namespace Go.Proofs.YtbgaglcgennhiaaGreatDoor
open Tx Ct
structure NearI (d:aZ):Prop where
 jid:∃ s k,d.jid=cX s k
 name:line d.name 100=true
 groups:∃ l,d.groups=ag l∧l.length≤4∧∀ g∈l,line g 30=true
 sub:d.sub=0∨d.sub=1∨d.sub=2∨d.sub=3
 ask:d.ask=true→d.sub=0∨d.sub=2
 app:d.app=true→d.sub=0∨d.sub=1
end Go.Proofs.YtbgaglcgennhiaaGreatDoor
end
section
namespace Go.Proofs.YtbgaglcgennhiaaGreatDoor
open Tx Ct
theorem qy (j:Jd.J):(Jd.textL j).length≤j.1.length+j.2.1.length+j.2.2.length+2:=by
 unfold Jd.textL;rw[List.length_append]
 split<;>split<;>simp<;>omega
theorem kx:∀ cs:List Nat,(flat cs).length≤4*cs.length
 | []=>by simp[flat]
 | c::cs=>by
   have h1:=kx cs;have h2:=(eR (n:=c)).2;rw[show c::cs=[c]++cs from rfl,bH,cH,List.length_append,List.length_append,List.length_singleton];omega
theorem gD {t:List UInt8} {n:Nat} (h:line t n=true):t.length≤4*n:=by
 obtain⟨cs,h1,h2,_⟩:=iM h
 rw[dP h1] at h;have h3:=of_decide_eq_true (Bool.and_eq_true_iff.1 h).2;have h4:=kx cs;rw[← h2];omega
theorem fR (s:List UInt8) (k:Nat):(cX s k).length≤300:=by
 have h:=sh s k;unfold Jd.bareL at h
 by_cases hp:(Jd.parseL (cX s k)).2=0
 · rw[if_pos hp] at h
   by_cases hr:(Jd.parseL (cX s k)).1.2.2=[]
   · rw[if_pos hr] at h
     have e:=congrArg Prod.fst h;simp only at e;have hl:=Jd.parse_len (show Jd.parseL (cX s k)=((Jd.parseL (cX s k)).1,0) from Prod.ext rfl hp);have ht:=qy (Jd.parseL (cX s k)).1;rw[e] at ht;omega
   · rw[if_neg hr] at h
     exact absurd (congrArg Prod.snd h) (by simp)
 · rw[if_neg hp] at h
   exact absurd (congrArg Prod.snd h) hp
theorem NearI.sizes {d:aZ} (h:NearI d):d.jid.length≤300∧d.name.length≤400∧d.groups.length≤4∧∀ g∈d.groups,g.length≤120:=by
 obtain⟨s,k,hj⟩:=h.jid
 obtain⟨l,hg,hl,hx⟩:=h.groups
 refine⟨by rw[hj];exact fR s k,gD (n:=100) h.name,by rw[hg];exact Nat.le_trans (px l) hl,fun g hm=>?_⟩
 rw[hg] at hm;exact gD (n:=30) (hx g (((fx l).2 g).1 hm).1)
end Go.Proofs.YtbgaglcgennhiaaGreatDoor
end

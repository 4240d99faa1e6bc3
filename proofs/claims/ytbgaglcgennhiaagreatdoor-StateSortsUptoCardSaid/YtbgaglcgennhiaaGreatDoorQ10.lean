import Derived.Test.YtbgaglcgennhiaaGreatDoorQ09
set_option maxHeartbeats 1000000
namespace Go.Proofs.YtbgaglcgennhiaaGreatDoor
namespace Pr
open Go.Proofs.YtbgaglcgennhiaaGreatDoor Rg Tx
def gone (c:Nat):Bool:=bO dq c
def rl (c:Nat):Bool:=bO ag c
def letter (c:Nat):Bool:=bO au c
def besideBL:List R:=[(32,32),(34,34),(38,39),(47,47),(58,58),(60,60),(62,62),(64,64)]
def besideLL:List R:=[(45,46),(48,57)]
def capital (c:Nat):Bool:=decide (65<=c)&&decide (c<=90)||decide (192<=c)&&decide (c<=222)&&!(c==215)
def small (c:Nat):List Nat:=if c=223 then [115,115] else if capital c then [c+32] else [c]
def put (all:Bool) (c:Nat):List Nat:=if all then small c else [c]
def one (all:Bool) (c:Nat):List Nat:=if gone c then [] else put all c
def mapL (all:Bool) (l:List Nat):List Nat:=l.flatMap (one all)
def wrong:Nat->Nat->Bool
 |1,c=>bO aG c||bO besideBL c
 |2,c=>!(bO au c||bO ag c||bO besideLL c)
 |_,c=>bO aG c
def wayB (l:List Nat):Bool:=!(l.any rl)||(rl (l.headD 0)&&rl (l.getLastD 0)&&!(l.any letter))
def prepC (k:Nat) (l:List Nat):List UInt8 × Nat:=if l.any (wrong k) then ([],15) else if wayB l then (flat l,0) else ([],16)
def prepL (k:Nat) (s:List UInt8):List UInt8 × Nat:=if valid s then prepC k (mapL (k != 3) (dB s)) else ([],3)
theorem prepL_bad {k:Nat} {s:List UInt8} (h:valid s=false):prepL k s=([],3):=by unfold prepL;rw[h];rfl
theorem rC {k:Nat} {s:List UInt8} (h:valid s=true):prepL k s=prepC k (mapL (k != 3) (dB s)):=by unfold prepL;rw[h];rfl
theorem prepC_char {k:Nat} {l:List Nat} (h:l.any (wrong k)=true):prepC k l=([],15):=by unfold prepC;rw[h];rfl
theorem prepC_ways {k:Nat} {l:List Nat} (h:l.any (wrong k)=false) (h2:wayB l=false):prepC k l=([],16):=by unfold prepC;rw[h,h2];rfl
theorem prepC_kept {k:Nat} {l:List Nat} (h:l.any (wrong k)=false) (h2:wayB l=true):prepC k l=(flat l,0):=by unfold prepC;rw[h,h2];rfl
theorem prepL_ch {k:Nat} {s:List UInt8} {l:List Nat} (h:ch s=some l):prepL k s=prepC k (mapL (k != 3) l):=by rw[rC (bA h),cz h]
theorem oK {c:Nat}:gone c=true↔c=173\/c=847\/c=6150\/8203<=c/\c<=8205\/c=8288\/65024<=c/\c<=65039\/c=65279:=by simp[gone,bO,dq];omega
theorem qM {c:Nat} (h:c<173):gone c=false:=by
 cases e:gone c with
 |false=>rfl
 |true=>have:=oK.1 e;omega
theorem capital_iff {c:Nat}:capital c=true↔65<=c/\c<=90\/192<=c/\c<=222/\c≠215:=by simp[capital];omega
def Stays (all:Bool) (c:Nat):Prop:=one all c=[c]
theorem one_stays (all:Bool) (c:Nat):∀ d∈one all c,Stays all d:=by
 intro d hd;unfold one at hd;cases hg:gone c with
 |true=>rw[hg] at hd;simp at hd
 | false=>
   rw[hg,if_neg (by simp)] at hd;unfold put at hd;unfold Stays one;cases all with
   | false=>simp at hd;subst hd;rw[hg,if_neg (by simp)];rfl
   | true=>
     simp only[if_true] at hd;unfold small at hd;have key:gone d=false/\d≠223/\capital d=false->(if gone d=true then [] else put true d)=[d]:=(by rintro ⟨h1,h2,h3⟩;unfold put small;rw[h1,h3,if_neg h2];rfl);apply key;by_cases h2:c=223
     ·rw[if_pos h2] at hd;simp at hd;subst hd;exact⟨qM (by omega),by omega,by decide⟩
     ·rw[if_neg h2] at hd;cases hc:capital c with
      | false=>rw[hc] at hd;simp at hd;subst hd;exact⟨hg,h2,hc⟩
      | true=>
        rw[hc] at hd;simp at hd;subst hd;have h3:=capital_iff.1 hc;refine⟨?_,by omega,?_⟩
        ·cases e:gone (c+32) with
         |false=>rfl
         |true=>have:=oK.1 e;omega
        ·cases e:capital (c+32) with
         |false=>rfl
         |true=>have:=capital_iff.1 e;omega
def Fine (c:Nat):Prop:=cB c/\jD c=true
theorem okc_of {c:Nat} (h:32<=c) (h2:c<65534):jD c=true:=by rw[rq];simp;omega
theorem one_fine (all:Bool) {c:Nat} (h:Fine c):∀ d∈one all c,Fine d:=by
 intro d hd;unfold one at hd;cases hg:gone c with
 |true=>rw[hg] at hd;simp at hd
 | false=>
   rw[hg,if_neg (by simp)] at hd;unfold put at hd;cases all with
   |false=>simp at hd;subst hd;exact h
   | true=>
     simp only[if_true] at hd;unfold small at hd;by_cases h2:c=223
     ·rw[if_pos h2] at hd;simp at hd;subst hd;exact⟨.inl (by omega),okc_of (by omega) (by omega)⟩
     ·rw[if_neg h2] at hd;cases hc:capital c with
      |false=>rw[hc] at hd;simp at hd;subst hd;exact h
      | true=>rw[hc] at hd;simp at hd;subst hd;have h3:=capital_iff.1 hc;exact⟨.inl (by omega),okc_of (by omega) (by omega)⟩
theorem ch_fine {l:List Nat} (h:∀ c∈l,Fine c):ch (flat l)=some l:=by
 induction l with
 |nil=>rw[cH];exact fD
 | cons c l ih=>have hc:=h c (List.mem_cons_self ..);rw[show c::l=[c]++l from rfl,bU,dx];have:=mg (b:=flat l) (vU hc.1 hc.2);rw[ih (fun d hd=>h d (List.mem_cons_of_mem _ hd))] at this;exact this
theorem mapL_stays {all:Bool} {l:List Nat} (h:∀ c∈l,Stays all c):mapL all l=l:=by
 induction l with
 |nil=>rfl
 | cons c l ih=>have hc:one all c=[c]:=h c (List.mem_cons_self ..);have h2:=ih (fun d hd=>h d (List.mem_cons_of_mem _ hd));unfold mapL at h2 ⊢;rw[List.flatMap_cons,hc,h2];rfl
theorem mapL_each {all:Bool} {l:List Nat} {p:Nat->Prop} (h:∀ c∈l,∀ d∈one all c,p d):∀ d∈mapL all l,p d:=by intro d hd;obtain⟨c,hc,hd⟩:=List.mem_flatMap.1 hd;exact h c hc d hd
theorem prepC_ok {k:Nat} {l:List Nat} {a:List UInt8} (h:prepC k l=(a,0)):l.any (wrong k)=false/\wayB l=true/\a=flat l:=by
 cases h1:l.any (wrong k) with
 |true=>rw[prepC_char h1] at h;simp at h
 | false=>
   cases h2:wayB l with
   |false=>rw[prepC_ways h1 h2] at h;simp at h
   |true=>rw[prepC_kept h1 h2] at h;simp at h;exact⟨rfl,rfl,h.symm⟩
theorem prepL_stays {k:Nat} {s a:List UInt8} (h:prepL k s=(a,0)):prepL k a=(a,0):=by
 cases hv:ch s with
 |none=>rw[prepL_bad (bz hv)] at h;simp at h
 | some l=>rw[prepL_ch hv] at h;obtain⟨h1,h2,rfl⟩:=prepC_ok h;have hf:∀ c∈mapL (k != 3) l,Fine c:=(mapL_each fun c hc=>one_fine _ (dp _ _ _ (aq _) hv c hc));have hs:∀ c∈mapL (k != 3) l,Stays (k != 3) c:=(mapL_each fun c _=>one_stays _ c);rw[prepL_ch (ch_fine hf),mapL_stays hs];exact h
theorem prepL_len (k:Nat) (s:List UInt8):(prepL k s).1.length<=8*s.length:=by
 cases hv:ch s with
 |none=>rw[prepL_bad (bz hv)];simp
 | some l=>
   rw[prepL_ch hv];have hl:=fZ _ _ _ (aq _) hv;have h1:∀ x:List Nat,(flat x).length<=4*x.length:=by
    intro x
    induction x with
    |nil=>rw[cH];simp
    | cons c x ih=>rw[show c::x=[c]++x from rfl,bU,dx,de,de];have:=(ga (n:=c)).2;simp only[List.length_singleton];omega
   have h2:∀ x:List Nat,(mapL (k != 3) x).length<=2*x.length:=by
    intro x
    induction x with
    |nil=>simp[mapL]
    | cons c x ih=>
      unfold mapL at ih ⊢;rw[List.flatMap_cons,de,List.length_cons];have:(one (k != 3) c).length<=2:=by
       unfold one put small
       repeat' split
       all_goals simp
      omega
   unfold prepC;have h3:=h1 (mapL (k != 3) l);have h4:=h2 l
   repeat' split
   all_goals (simp only[List.length_nil];omega)
end Pr
section
open Go.RowKit Rg
def Asks (w:World) (v:Value) (p:Nat->Bool):Prop:=∃ (F:FuncId) (cb:Array Value),v=.func (.func F) #[] cb/\(∀ args W,(callFunc F args).run Tryz.prog W=.ok (.enter F args) W) /\
 ∀ (c:Nat) W,Below w.heap.size w W->Calls Tryz.prog F (#[.int .i64 c]++cb) W fun e w'=>e=.returned (.bool (p c))/\Below W.heap.size W w'
theorem Asks.below {w w':World} {v:Value} {p:Nat->Bool} (h:Asks w v p) (hb:Below w.heap.size w w'):Asks w' v p:=by obtain⟨F,cb,rfl,eg,hp⟩:=h;exact⟨F,cb,rfl,eg,fun c W hW=>hp c W (hb.trans (hW.mono hb.size))⟩
theorem mK {x:List Nat} {p:Nat->Bool} {k:Nat} (h:k<x.length) (hp:p (x.getD k 0)=true):x.any p=true:=by rw[List.any_eq_true];refine⟨x.getD k 0,?_,hp⟩;rw[List.getD,aQ h];exact List.getElem_mem h
theorem ko {x:List Nat} {p:Nat->Bool} (h:∀ k,k<x.length->p (x.getD k 0)=false):x.any p=false:=by rw[List.any_eq_false];intro c hc;obtain⟨k,hk,rfl⟩:=List.getElem_of_mem hc;have:=h k hk;rw[List.getD,aQ hk] at this;simpa using this
theorem lX (v u:Value) (x:List Nat) (p:Nat->Bool) (w:World) (hv:Reads w.heap.size w v x) (hl:x.length<=140737488355328) (hp:Asks w u p):
 Calls Tryz.prog 254 #[v,u] w fun e w'=>(∃ z:Int,e=.returned (.int .i64 z)/\decide (z≥0)=x.any p)/\Below w.heap.size w w':=by
 obtain⟨F,cb,rfl,eg,hp⟩:=hp;obtain⟨A,cap,rfl,hx⟩:=hv;have HX:=aa hx;have HP:=aa hp;have HH:=aa (fun (k:Nat) (h:k<x.length) (h2:p (x.getD k 0)=true)=>mK h h2);have HM:=aa (fun (h:∀ k,k<x.length->p (x.getD k 0)=false)=>ko h);clear hx hp;go_enter Tryz.func254,Tryz.ntmps254;go_wp2_with fail
 go_loopw [8] (fun i wr=>∃ (k:Nat),k<=x.length/\i=.int .i64 k/\Hid (∀ j,j<k->p (x.getD j 0)=false)/\Below w.heap.size w wr) (fun i _=>x.length-(intOf i).toNat)
 case atStart=>exact⟨0,bI _,rfl,aa (fun j h=>absurd h (Nat.not_lt_zero _)),aE _ _⟩
 case round=>
  obtain⟨k,hk,rfl,hno,hb⟩:=hrel;have hsw:=hb.size;by_cases hlt:k<x.length
  ·obtain⟨ad,rfl,hlb,hc⟩:=HX.out (by omega);have c0:=hc k hlt;rw[<-hb.cell (p:=ad.add k) (by rw[aC];omega)] at c0;obtain⟨c,hcx⟩:=ac (x.getD k 0);rw[hcx] at c0;have HC:=aa hcx;clear hc hcx;(go_wp2_with fail);refine(HP.out c _ hb).mono ?_;rintro e w2 ⟨rfl,b2⟩;have hb2:Below w.heap.size w w2:=hb.trans (b2.mono hsw);cases hq:p c with
   | true=>have hf:=aa (HH.out k hlt (by rw[HC.out];exact hq));clear hq b2;(go_wp2_with fail);go_ret;exact⟨⟨_,rfl,by rw[hf.out];simp⟩,hb2⟩
   | false=>
     have hno2:Hid (∀ j,j<k+1->p (x.getD j 0)=false):=aa (fun j hj=>by
      rcases Nat.lt_or_ge j k with h|h
      ·exact hno.out j h
      ·obtain rfl:j=k:=(by omega);rw[HC.out];exact hq)
     clear hq b2;(go_wp2_with fail);go_roundw;case rel=>exact⟨k+1,by omega,by go_num,hno2,hb2⟩
     case measure=>simp[intOf];omega
  ·have hke:k=x.length:=(by omega);have hf:=aa (HM.out (fun j hj=>hno.out j (by omega)));clear hke;(go_wp2_with fail);go_ret;exact⟨⟨_,rfl,by rw[hf.out];simp⟩,hb⟩
theorem eS (v u:Value) (x:List Nat) (p:Nat->Bool) (w:World) (hv:Reads w.heap.size w v x) (hl:x.length<=140737488355328) (hp:Asks w u p):
 Calls Tryz.prog 226 #[v,u] w fun e w'=>e=.returned (.bool (x.any p))/\Below w.heap.size w w':=by
 have HI:=aa (lX v u x p w hv hl hp);obtain⟨A,cap,rfl,hx⟩:=hv;obtain⟨F,cb,rfl,eg,hp⟩:=hp;obtain⟨r,hr⟩:=ac (x.any p);rw[hr] at HI ⊢;clear hx hp hr eg;go_enter Tryz.func226,Tryz.ntmps226;go_wp2_with (go_at_call 254;refine HI.out.mono ?_;rintro e w1 ⟨⟨z,rfl,hz⟩,hb⟩)
 go_ret;exact⟨rfl,hb⟩
theorem qs (bx:Nat) (v:Value) (l:List R) (c:Nat) (W:World) (hbx:W.cell? ⟨bx,0,none⟩=some v) (hv:ReadR W.heap.size W v l) (hl:l.length<=140737488355328):
 Calls Tryz.prog 214 (#[.int .i64 c]++#[.pointer (some ⟨bx,0,none⟩)]) W fun e w'=>e=.returned (.bool (bO l c))/\Below W.heap.size W w':=by
 have HI:=aa (zZ v l c W hv hl);obtain⟨A,cap,rfl,_,hx⟩:=hv;clear hx;go_enter Tryz.func214,Tryz.ntmps214;go_wp2_with fail
 refine HI.out.mono ?_;rintro e w1 ⟨rfl,hb⟩;go_wp2_with fail
 go_ret;exact⟨rfl,hb⟩
theorem dQ (v:Value) (l:List R) (w:World) (hv:ReadR w.heap.size w v l) (hl:l.length<=140737488355328):
 Calls Tryz.prog 188 #[v] w fun e w'=>∃ u,e=.returned u/\Asks w' u (fun c=>bO l c)/\Below w.heap.size w w':=by
 have hb1:Below w.heap.size w (w.alloc (.cells #[v] 166)):=(Below.refl _ w).alloc (aq _) _;have hk:=Bk.new w 166 #[v];have eg:∀ args w,(callFunc 214 args).run Tryz.prog w=.ok (.enter 214 args) w:=enters_of Tryz.func214 (by kernel_rfl) rfl;have HA:Hid (Asks (w.alloc (.cells #[v] 166)) (.func (.func 214) #[] #[.pointer (some ⟨w.heap.size,0,none⟩)]) (fun c=>bO l c)):=by
  refine⟨_,_,rfl,eg,fun c W hW=>?_⟩;have hs:=hW.size;rw[World.size_alloc] at hs;refine qs w.heap.size v l c W ?_ ?_ hl
  ·exact(hk.below hW (by simp)).cell 0
  ·exact(((hv.below hb1).more (by simp)).below hW).more (by simp;omega)
 obtain⟨A,cap,rfl,_,hx⟩:=hv;clear hx eg hk;go_enter Tryz.func188,Tryz.ntmps188;go_wp2_with fail
 go_ret;exact⟨_,rfl,HA.out,hb1⟩
def Adds (w:World) (v:Value) (f:Nat->List Nat):Prop:=∃ (F:FuncId) (cb:Array Value),v=.func (.func F) #[] cb/\(∀ args W,(callFunc F args).run Tryz.prog W=.ok (.enter F args) W) /\
 ∀ (B c:Nat) (d:Value) (x:List Nat) W,Below w.heap.size w W->w.heap.size<=B->B<=W.heap.size->Owned B W d x->x.length<=1000000000000->c<=1114111 ->
   Calls Tryz.prog F (#[d,.int .i64 c]++cb) W fun e w'=>∃ d',e=.returned d'/\Owned B w' d' (x++f c)/\Below B W w'
theorem Adds.below {w w':World} {v:Value} {f:Nat->List Nat} (h:Adds w v f) (hb:Below w.heap.size w w'):Adds w' v f:=by obtain⟨F,cb,rfl,eg,hp⟩:=h;exact⟨F,cb,rfl,eg,fun B c d x W hW h1 h2=>hp B c d x W (hb.trans (hW.mono hb.size)) (co hb.size h1) h2⟩
theorem im {x:List Nat} {f:Nat->List Nat} {k:Nat} (h:k<x.length):(x.take (k+1)).flatMap f=(x.take k).flatMap f++f (x.getD k 0):=by rw[List.take_add_one,aQ h,List.flatMap_append,List.getD,aQ h,Option.toList_some,List.flatMap_singleton,Option.getD_some]
theorem dS {f:Nat->List Nat} (hf:∀ c,(f c).length<=2):∀ x:List Nat,(x.flatMap f).length<=2*x.length
 |[]=>by simp
 | c::x=>by have:=dS hf x;have:=hf c;rw[List.flatMap_cons,de,List.length_cons];omega
theorem Owned.slice {B:Nat} {w:World} {v:Value} {x:List Nat} (h:Owned B w v x):∃ A cap,v=.slice A x.length cap:=by
 rcases h.2 with ⟨rfl,h0⟩|⟨g,cap,cur,rfl,_⟩
 ·exact⟨none,0,by rw[h0]⟩
 ·exact⟨_,_,rfl⟩
theorem rn (v u:Value) (x:List Nat) (f:Nat->List Nat) (w:World) (hv:Reads w.heap.size w v x) (hl:x.length<=100000000000) (hx0:∀ c∈x,c<=1114111) (hf:∀ c,(f c).length<=2) (hp:Adds w u f):
 Calls Tryz.prog 223 #[v,u] w fun e w'=>∃ d,e=.returned d/\Owned w.heap.size w' d (x.flatMap f)/\Below w.heap.size w w':=by
 obtain⟨F,cb,rfl,eg,hp⟩:=hp;obtain⟨A,cap,rfl,hx⟩:=hv;have HX:=aa hx;have HP:=aa hp;have HL:=aa (fun k=>dS hf (x.take k));have H0:=aa hx0;clear hx hp hf hx0;go_enter Tryz.func223,Tryz.ntmps223;go_wp2_with fail
 go_loopw [5,10] (fun vv i wr=>∃ (k:Nat) (d:Value),vv=d/\k<=x.length/\i=.int .i64 k/\Below w.heap.size w wr/\Hid (Owned w.heap.size wr d ((x.take k).flatMap f))) (fun _ i _=>x.length-(intOf i).toNat)
 case atStart=>exact⟨0,_,rfl,bI _,rfl,aE _ _,Owned.nil _ _⟩
 case round=>
  obtain⟨k,d,hd,hk,rfl,hb,ho⟩:=hrel;have hd2:=hd.symm;clear hd;subst hd2;have hsw:=hb.size;by_cases hlt:k<x.length
  ·obtain⟨ad,rfl,hlb,hc⟩:=HX.out (by omega);have c0:=hc k hlt;rw[<-hb.cell (p:=ad.add k) (by rw[aC];omega)] at c0;obtain⟨c,hcx⟩:=ac (x.getD k 0);have hcm:c<=1114111:=H0.out c (by rw[<-hcx,List.getD,aQ hlt];exact List.getElem_mem hlt);have htk:=aa (im (f:=f) hlt);rw[hcx] at c0 htk;have hlen:=HL.out k;rw[dL] at hlen;have HN:=aa (HP.out w.heap.size c d _ wr hb (aq _) hsw ho.out (by omega) hcm);obtain⟨A2,c2,rfl⟩:=ho.out.slice;obtain⟨n2,hn2⟩:=ac (((x.take k).flatMap f).length);rw[hn2] at HN;rw[hn2];clear hc hcx hlen hn2 ho;(go_wp2_with fail);refine HN.out.mono ?_;rintro e w2 ⟨d2,rfl,o2,b2⟩;have hb2:Below w.heap.size w w2:=hb.trans b2;have o3:Hid (Owned w.heap.size w2 d2 ((x.take (k+1)).flatMap f)):=(by unfold Hid;rw[htk.out];exact o2);clear b2 o2 htk HN;(go_wp2_with fail);go_roundw;case rel=>exact⟨k+1,_,rfl,by omega,by go_num,hb2,o3⟩
   case measure=>simp[intOf];omega
  ·have hke:k=x.length:=(by omega);have ho2:Hid (Owned w.heap.size wr d (x.flatMap f)):=(by have:=ho.out;rw[hke,List.take_length] at this;exact this);clear hke;(go_wp2_with fail);go_ret;exact⟨_,rfl,ho2.out,hb⟩
end
section
open Go.Proofs.YtbgaglcgennhiaaGreatDoor Rg Tx
theorem Jd.flat_cons (c:Nat) (l:List Nat):flat (c::l)=enc c++flat l:=by rw[show c::l=[c]++l from rfl,bU,dx]
namespace Jd
def cutB (c:UInt8):List UInt8->List UInt8 × List UInt8 × Bool
 |[]=>([],[],false)
 |b::l=>if b=c then ([],l,true) else (b::(cutB c l).1,(cutB c l).2.1,(cutB c l).2.2)
theorem cutB_none {c:UInt8}:∀ {l:List UInt8},c ∉ l->cutB c l=(l,[],false)
 |[],_=>rfl
 | b::l,h=>by have h1:b≠c:=(fun e=>h (by rw[e];exact List.mem_cons_self ..));have h2:=cutB_none (c:=c) (l:=l) (fun e=>h (List.mem_cons_of_mem _ e));unfold cutB;rw[if_neg h1,h2]
theorem cutB_some {c:UInt8} {r:List UInt8}:∀ {p:List UInt8},c ∉ p->cutB c (p++c::r)=(p,r,true)
 |[],_=>by rw[List.nil_append];unfold cutB;rw[if_pos rfl]
 | b::p,h=>by have h1:b≠c:=(fun e=>h (by rw[e];exact List.mem_cons_self ..));have h2:=cutB_some (c:=c) (r:=r) (p:=p) (fun e=>h (List.mem_cons_of_mem _ e));rw[List.cons_append];unfold cutB;rw[if_neg h1,h2]
theorem cutB_cases (c:UInt8):∀ l:List UInt8,(cutB c l=(l,[],false)/\c ∉ l)\/∃ p r,l=p++c::r/\c ∉ p/\cutB c l=(p,r,true)
 |[]=>.inl ⟨rfl,by simp⟩
 | b::l=>by
   by_cases h:b=c
   ·subst h;exact .inr ⟨[],l,rfl,by simp,by unfold cutB;rw[if_pos rfl]⟩
   ·rcases cutB_cases c l with ⟨h1,h2⟩|⟨p,r,h1,h2,h3⟩
    ·exact .inl ⟨by unfold cutB;rw[if_neg h,h1],fun e=>(List.mem_cons.1 e).elim (fun e=>h e.symm) h2⟩
    ·exact .inr ⟨b::p,r,by rw[h1];rfl,fun e=>(List.mem_cons.1 e).elim (fun e=>h e.symm) h2,by unfold cutB;rw[if_neg h,h3]⟩
theorem cutB_len (c:UInt8) (l:List UInt8):(cutB c l).1.length<=l.length/\(cutB c l).2.1.length<=l.length:=by
 rcases cutB_cases c l with ⟨h1,_⟩|⟨p,r,h1,_,h3⟩
 ·rw[h1];simp
 ·rw[h3,h1];simp;omega
def pcs (c:UInt8):List UInt8->List (List UInt8)
 |[]=>[[]]
 |b::l=>if b=c then []::pcs c l else (b::(pcs c l).headD [])::(pcs c l).tail
theorem Ah (c:UInt8):∀ l:List UInt8,pcs c l≠[]
 |[]=>by simp[pcs]
 |b::l=>by unfold pcs;split<;>simp
theorem pcs_none {c:UInt8}:∀ {l:List UInt8},c ∉ l->pcs c l=[l]
 |[],_=>rfl
 | b::l,h=>by have h1:b≠c:=(fun e=>h (by rw[e];exact List.mem_cons_self ..));have h2:=pcs_none (c:=c) (l:=l) (fun e=>h (List.mem_cons_of_mem _ e));unfold pcs;rw[if_neg h1,h2];rfl
theorem pcs_some {c:UInt8} {r:List UInt8}:∀ {p:List UInt8},c ∉ p->pcs c (p++c::r)=p::pcs c r
 |[],_=>by rw[List.nil_append,pcs,if_pos rfl]
 | b::p,h=>by have h1:b≠c:=(fun e=>h (by rw[e];exact List.mem_cons_self ..));have h2:=pcs_some (c:=c) (r:=r) (p:=p) (fun e=>h (List.mem_cons_of_mem _ e));rw[List.cons_append,pcs,if_neg h1,h2];rfl
theorem pt (c:UInt8):∀ l:List UInt8,pcs c (l++[c])=pcs c l++[[]]
 |[]=>by simp[pcs]
 | b::l=>by
   have ih:=pt c l;have hn:=Ah c l;have e1:pcs c (b::(l++[c]))=if b=c then []::pcs c (l++[c]) else (b::(pcs c (l++[c])).headD [])::(pcs c (l++[c])).tail:=rfl;have e2:pcs c (b::l)=if b=c then []::pcs c l else (b::(pcs c l).headD [])::(pcs c l).tail:=rfl;rw[List.cons_append,e1,e2,ih];by_cases h:b=c
   ·rw[if_pos h,if_pos h];rfl
   ·rw[if_neg h,if_neg h];cases hp:pcs c l with
    |nil=>exact absurd hp hn
    |cons y ys=>rfl
theorem zj (c:UInt8) (l:List UInt8):[]∈pcs c (l++[c]):=by rw[pt];simp
theorem pcs_len (c:UInt8):∀ l:List UInt8,∀ x∈pcs c l,x.length<=l.length
 |[],x,h=>by simp[pcs] at h;subst h;simp
 | b::l,x,h=>by
   have ih:=pcs_len c l;unfold pcs at h;split at h
   ·rcases List.mem_cons.1 h with rfl|h
    ·simp
    ·have:=ih x h;simp;omega
   ·rcases List.mem_cons.1 h with rfl|h
    ·rw[List.length_cons,List.length_cons];cases hp:pcs c l with
     |nil=>simp
     |cons y ys=>have:=ih y (by rw[hp];exact List.mem_cons_self ..);simp;omega
    ·have:=ih x (List.mem_of_mem_tail h);simp;omega
theorem lZ {b c:UInt8} {l:List UInt8} (h:b≠c):Lib.index (b::l) [c]=if Lib.index l [c]==-1 then -1 else Lib.index l [c]+1:=by
 have hp:([c]:List UInt8).isPrefixOf (b::l)=false:=by simp[List.isPrefixOf,Ne.symm h]
 rw[Lib.index,hp];simp
theorem lY (c:UInt8) (l:List UInt8):Lib.index (c::l) [c]=0:=by rw[Lib.index];simp[List.isPrefixOf]
theorem r8 (c:UInt8) (k:Nat):Lib.splitK [c] 0 k []=[[]]:=by
 cases k with
 |zero=>rfl
 |succ k=>rw[Lib.splitK,if_pos (by simp[Lib.index])]
theorem uW {b c:UInt8} {l:List UInt8} (h:b≠c) (k:Nat):Lib.splitK [c] 0 k (b::l)=(b::(Lib.splitK [c] 0 k l).headD [])::(Lib.splitK [c] 0 k l).tail:=by
 cases k with
 |zero=>rfl
 | succ k=>
   have hix:=lZ (l:=l) h;have hge:=Lib.index_ge l [c];by_cases hm:Lib.index l [c]=-1
   ·rw[hm] at hix;rw[Lib.splitK,Lib.splitK,hix,hm];rfl
   ·obtain⟨j,hj⟩:∃ j:Nat,Lib.index l [c]=j:=⟨(Lib.index l [c]).toNat,by omega⟩;have h2:(Lib.index l [c]==-1)=false:=(by simpa using hm);rw[h2,hj] at hix;rw[hj] at h2;have h3:(((j:Int)+1)==-1)=false:=(by simp;omega);rw[Lib.splitK,Lib.splitK,hix,hj,h2];simp only[if_neg (by simp:¬ (false=true))];rw[h3];simp only[if_neg (by simp:¬ (false=true))];have e1:((j:Int)+1).toNat=j+1:=(by omega);rw[e1];simp
theorem split_pcs (c:UInt8):∀ l:List UInt8,Lib.splitK [c] 0 (Lib.count l [c]) l=pcs c l
 |[]=>r8 c _
 | b::l=>by
   have ih:=split_pcs c l;by_cases h:b=c
   ·subst h;rw[Lib.count_cons_eq,show 1+Lib.count l [b]=Lib.count l [b]+1 by omega,Lib.splitK,lY,pcs,if_pos rfl,<-ih];simp
   ·rw[Lib.count_cons_ne b c l h,uW h,ih,pcs,if_neg h]
def badB (x:List UInt8):Bool:=x.isEmpty||x.headD 0==45||x.getLastD 0==45
def trimD (l:List UInt8):List UInt8:=if l.getLast?=some 46 then l.dropLast else l
def sizedL (most:Nat) (r:List UInt8 × Nat):List UInt8 × Nat:=if r.2=0 then (if r.1=[]\/most<r.1.length then ([],14) else r) else ([],r.2)
def hostL (s:List UInt8):List UInt8 × Nat:=(trimD (Pr.prepL 2 s).1,(Pr.prepL 2 s).2)
def pieced (r:List UInt8 × Nat):List UInt8 × Nat:=if r.2=0 then (if (pcs 46 r.1).any badB then ([],14) else r) else ([],r.2)
def domL (s:List UInt8):List UInt8 × Nat:=pieced (sizedL 100 (hostL s))
abbrev J:=List UInt8 × List UInt8 × List UInt8
def none_:J:=([],[],[])
def three (D N R:List UInt8 × Nat):J × Nat:=if D.2≠0 then (none_,D.2) else if N.2≠0 then (none_,N.2) else if R.2≠0 then (none_,R.2) else ((N.1,D.1,R.1),0)
def part (is:Bool) (k:Nat) (s:List UInt8):List UInt8 × Nat:=if is then sizedL 64 (Pr.prepL k s) else ([],0)
def halfL (s:List UInt8):List UInt8 × List UInt8 × Bool:=if (cutB 64 s).2.2 then cutB 64 s else ([],s,false)
def parseL (s:List UInt8):J × Nat:=three (domL (halfL (cutB 47 s).1).2.1) (part (halfL (cutB 47 s).1).2.2 1 (halfL (cutB 47 s).1).1) (part (cutB 47 s).2.2 3 (cutB 47 s).2.1)
def textL (j:J):List UInt8:=(if j.1=[] then j.2.1 else j.1++[64]++j.2.1)++(if j.2.2=[] then [] else [47]++j.2.2)
def bareL (s:List UInt8):List UInt8 × Nat:=if (parseL s).2=0 then (if (parseL s).1.2.2=[] then (textL (parseL s).1,0) else ([],14)) else ([],(parseL s).2)
theorem half_none {s:List UInt8} (h:64 ∉ s):halfL s=([],s,false):=by unfold halfL;rw[cutB_none h];rfl
theorem half_some {p r:List UInt8} (h:64 ∉ p):halfL (p++64::r)=(p,r,true):=by unfold halfL;rw[cutB_some h];rfl
theorem half_len (s:List UInt8):(halfL s).1.length<=s.length/\(halfL s).2.1.length<=s.length:=by
 have h:=cutB_len 64 s;unfold halfL;split
 ·exact h
 ·simp
theorem sized_ok {m:Nat} {r:List UInt8 × Nat} {a:List UInt8} (h:sizedL m r=(a,0)):r=(a,0)/\a≠[]/\a.length<=m:=by
 unfold sizedL at h;by_cases h0:r.2=0
 ·rw[if_pos h0] at h;by_cases h1:r.1=[]\/m<r.1.length
  ·rw[if_pos h1] at h;simp at h
  ·rw[if_neg h1] at h;subst h;exact⟨rfl,fun e=>h1 (.inl e),by have:¬ m<(a,0).1.length:=fun e=>h1 (.inr e);simpa using this⟩
 ·rw[if_neg h0] at h;exact absurd (congrArg Prod.snd h) h0
theorem sized_of {m:Nat} {a:List UInt8} (h:a≠[]) (h2:a.length<=m):sizedL m (a,0)=(a,0):=by unfold sizedL;rw[if_pos rfl,if_neg (by rintro (h3|h3);exact h h3;exact absurd h3 (by simpa using h2))]
theorem t7 {r:List UInt8 × Nat} {a:List UInt8} (h:pieced r=(a,0)):r=(a,0)/\(pcs 46 a).any badB=false:=by
 unfold pieced at h;by_cases h0:r.2=0
 ·rw[if_pos h0] at h;cases h1:(pcs 46 r.1).any badB with
  |true=>rw[h1] at h;simp at h
  |false=>rw[h1,if_neg (by simp)] at h;subst h;exact⟨rfl,h1⟩
 ·rw[if_neg h0] at h;exact absurd (congrArg Prod.snd h) h0
theorem sD {c:Nat} {b:UInt8} (h:b∈enc c) (hb:b.toNat<128):c=b.toNat:=by
 by_cases hs:cB c
 ·rcases ec hs with ⟨h1,e⟩|⟨h1,h2,e⟩|⟨h1,h2,e⟩|⟨h1,h2,e⟩<;>rw[e] at h<;>simp only[List.mem_cons,List.not_mem_nil,or_false] at h
  ·rw[h,bE _ (by omega)]
  all_goals
   exfalso;rcases h with h|h
   ·rw[h,bE _ (by omega)] at hb;omega
   ·first
     |(rw[h,bE _ (by omega)] at hb;omega)
     |(rcases h with h|h
       ·rw[h,bE _ (by omega)] at hb;omega
       ·first
         |(rw[h,bE _ (by omega)] at hb;omega)
         |(rcases h with h|h<;>(rw[h,bE _ (by omega)] at hb;omega)))
 ·rw[mY hs] at h;exfalso;simp at h;rcases h with h|h|h<;>rw[h] at hb<;>exact absurd hb (by decide)
theorem oI:∀ {l:List Nat} {b:UInt8},b∈flat l->b.toNat<128->b.toNat∈l
 |[],b,h,_=>by rw[cH] at h;cases h
 | c::l,b,h,hb=>by
   rw[flat_cons] at h;rcases List.mem_append.1 h with h|h
   ·rw[sD h hb];exact List.mem_cons_self ..
   ·exact List.mem_cons_of_mem _ (oI h hb)
theorem sR {k:Nat} {s a:List UInt8} (h:Pr.prepL k s=(a,0)):∃ y:List Nat,a=flat y/\y.any (Pr.wrong k)=false/\Pr.wayB y=true/\(∀ c∈y,Pr.Fine c)/\∀ c∈y,Pr.Stays (k != 3) c:=by
 cases hv:ch s with
 |none=>rw[Pr.prepL_bad (bz hv)] at h;simp at h
 | some l=>rw[Pr.prepL_ch hv] at h;obtain⟨h1,h2,rfl⟩:=Pr.prepC_ok h;exact⟨_,rfl,h1,h2,Pr.mapL_each fun c hc=>Pr.one_fine _ (dp _ _ _ (aq _) hv c hc),Pr.mapL_each fun c _=>Pr.one_stays _ c⟩
theorem jZ {k:Nat} {s a:List UInt8} (h:Pr.prepL k s=(a,0)) {b:UInt8} (hb:b.toNat<128) (hw:Pr.wrong k b.toNat=true):b ∉ a:=by obtain⟨y,rfl,h1,_⟩:=sR h;intro hm;have:=List.any_eq_false.1 h1 _ (oI hm hb);rw[hw] at this;exact this rfl
theorem prep_nil (k:Nat):Pr.prepL k []=([],0):=by rw[Pr.prepL_ch (l:=[]) (by exact fD)];have h:=Pr.prepC_kept (k:=k) (l:=[]) rfl (by decide);rw[cH] at h;exact h
theorem vA {s h:List UInt8} (hh:Pr.prepL 2 s=(h,0)):Pr.prepL 2 (trimD h)=(trimD h,0):=by
 unfold trimD;by_cases hl:h.getLast?=some 46
 ·rw[if_pos hl];obtain⟨y,rfl,h1,h2,h3,h4⟩:=sR hh;rcases List.eq_nil_or_concat y with rfl|⟨y',c,rfl⟩
  ·rw[cH] at hl;simp at hl
  rw[List.concat_eq_append] at *;rw[bU,dx] at hl ⊢;have hc:c=46:=by
   have hm:(46:UInt8)∈enc c:=by
    have hne:=ws c;rw[List.getLast?_append] at hl;cases he:(enc c).getLast? with
    |none=>exact absurd (List.getLast?_eq_none_iff.1 he) hne
    | some x=>rw[he] at hl;injection hl with hl;subst hl;exact List.mem_of_getLast? he
   exact sD hm (by decide)
  subst hc;have he:enc 46=[46]:=(by rw[ij (.inl (by omega))];rfl);rw[he,List.dropLast_concat];have hr:y'.any Pr.rl=false:=by
   cases hr:(y'++[46]).any Pr.rl with
   |false=>rw[List.any_append,Bool.or_eq_false_iff] at hr;exact hr.1
   | true=>exfalso;unfold Pr.wayB at h2;rw[hr] at h2;simp at h2;exact absurd h2.1.2 (by decide)
  rw[Pr.prepL_ch (Pr.ch_fine (fun c hc=>h3 c (List.mem_append_left _ hc))),Pr.mapL_stays (fun c hc=>h4 c (List.mem_append_left _ hc))];refine Pr.prepC_kept ?_ ?_
  ·rw[List.any_append,Bool.or_eq_false_iff] at h1;exact h1.1
  ·unfold Pr.wayB;rw[hr];rfl
 ·rw[if_neg hl];exact Pr.prepL_stays hh
theorem qq {d:List UInt8} (h:(pcs 46 d).any badB=false):trimD d=d:=by
 unfold trimD;refine if_neg fun hl=>?_
 rcases List.eq_nil_or_concat d with rfl|⟨d',c,rfl⟩
 ·simp at hl
 ·rw[List.concat_eq_append] at *;simp at hl;subst hl;have:=List.any_eq_false.1 h _ (zj 46 d');exact this rfl
theorem mR {s d:List UInt8} (h:domL s=(d,0)):Pr.prepL 2 d=(d,0)/\d≠[]/\d.length<=100/\(pcs 46 d).any badB=false:=by
 obtain⟨h1,h2⟩:=t7 h;obtain⟨h3,h4,h5⟩:=sized_ok h1;unfold hostL at h3;have e1:=congrArg Prod.fst h3;have e2:=congrArg Prod.snd h3;simp only at e1 e2;have h6:Pr.prepL 2 s=((Pr.prepL 2 s).1,0):=by rw[<-e2]
 have h7:=vA h6;rw[e1] at h7;exact⟨h7,h4,h5,h2⟩
theorem dom_of {d:List UInt8} (h1:Pr.prepL 2 d=(d,0)) (h2:d≠[]) (h3:d.length<=100) (h4:(pcs 46 d).any badB=false):domL d=(d,0):=by
 have e:hostL d=(d,0):=by unfold hostL;rw[h1];simp only;rw[qq h4]
 unfold domL;rw[e,sized_of h2 h3];unfold pieced;rw[if_pos rfl,h4];rfl
theorem th {s d:List UInt8} (h:domL s=(d,0)):domL d=(d,0):=by obtain⟨h1,h2,h3,h4⟩:=mR h;exact dom_of h1 h2 h3 h4
theorem wk {s d:List UInt8} (h:domL s=(d,0)):47 ∉ d/\64 ∉ d:=by obtain⟨h1,_⟩:=mR h;exact⟨jZ h1 (by decide) (by decide),jZ h1 (by decide) (by decide)⟩
theorem yu {D N R:List UInt8 × Nat} {j:J} (h:three D N R=(j,0)):D=(j.2.1,0)/\N=(j.1,0)/\R=(j.2.2,0):=by
 unfold three at h;by_cases h1:D.2=0
 ·by_cases h2:N.2=0
  ·by_cases h3:R.2=0
   ·rw[if_neg (by simp[h1]),if_neg (by simp[h2]),if_neg (by simp[h3])] at h;have:=congrArg Prod.fst h;simp only at this;subst this;exact⟨Prod.ext rfl h1,Prod.ext rfl h2,Prod.ext rfl h3⟩
   ·rw[if_neg (by simp[h1]),if_neg (by simp[h2]),if_pos h3] at h;exact absurd (congrArg Prod.snd h) h3
  ·rw[if_neg (by simp[h1]),if_pos h2] at h;exact absurd (congrArg Prod.snd h) h2
 ·rw[if_pos h1] at h;exact absurd (congrArg Prod.snd h) h1
structure zD (j:J):Prop where
 dom:domL j.2.1=(j.2.1,0)
 dne:j.2.1≠[]
 loc:j.1=[]\/(Pr.prepL 1 j.1=(j.1,0)/\j.1.length<=64)
 res:j.2.2=[]\/(Pr.prepL 3 j.2.2=(j.2.2,0)/\j.2.2.length<=64)
theorem sQ {is:Bool} {k:Nat} {s a:List UInt8} (h:part is k s=(a,0)):a=[]\/(Pr.prepL k a=(a,0)/\a.length<=64):=by
 unfold part at h;cases is with
 |false=>rw[if_neg (by simp)] at h;exact .inl (congrArg Prod.fst h).symm
 | true=>rw[if_pos rfl] at h;obtain⟨h1,_,h3⟩:=sized_ok h;exact .inr ⟨Pr.prepL_stays h1,h3⟩
theorem jE {s:List UInt8} {j:J} (h:parseL s=(j,0)):zD j:=by obtain⟨h1,h2,h3⟩:=yu h;exact⟨th h1,(mR h1).2.1,sQ h2,sQ h3⟩
theorem ry {j:J} (h:zD j):parseL (textL j)=(j,0):=by
 obtain⟨l,d,r⟩:=j;obtain⟨h1,_,h2,h3⟩:=h;simp only at h1 h2 h3;obtain⟨d1,d2⟩:=wk h1
 -- the front,and its halves
 have hf:∃ f,(if l=[] then d else l++[64]++d)=f/\47 ∉ f/\(halfL f).2.1=d/\part (halfL f).2.2 1 (halfL f).1=(l,0):=by
  by_cases hl:l=[]
  ·subst hl;exact⟨d,if_pos rfl,d1,by rw[half_none d2],by rw[half_none d2];rfl⟩
  ·have h4:=(h2.resolve_left hl);have l1:64 ∉ l:=jZ h4.1 (by decide) (by decide);have l2:47 ∉ l:=jZ h4.1 (by decide) (by decide);refine⟨l++64::d,by rw[if_neg hl];simp,?_,by rw[half_some l1],?_⟩
   ·intro hm;rcases List.mem_append.1 hm with hm|hm
    ·exact l2 hm
    ·rcases List.mem_cons.1 hm with hm|hm
     ·exact absurd hm (by decide)
     ·exact d1 hm
   ·rw[half_some l1];unfold part;rw[if_pos rfl,h4.1];exact sized_of hl h4.2
 obtain⟨f,hf0,hf1,hf2,hf3⟩:=hf;have ht:textL (l,d,r)=f++(if r=[] then [] else [47]++r):=by unfold textL;simp only;rw[hf0]
 by_cases hr:r=[]
 ·subst hr;rw[if_pos rfl,List.append_nil] at ht;unfold parseL;rw[ht,cutB_none hf1];simp only;rw[hf2,hf3,h1];rfl
 ·have h4:=(h3.resolve_left hr);rw[if_neg hr,List.singleton_append] at ht;unfold parseL;rw[ht,cutB_some hf1];simp only;rw[hf2,hf3,h1];unfold part;rw[if_pos rfl,h4.1,sized_of hr h4.2];rfl
theorem rx {s:List UInt8} {j:J} (h:parseL s=(j,0)):parseL (textL j)=(j,0):=ry (jE h)
theorem parse_len {s:List UInt8} {j:J} (h:parseL s=(j,0)):j.1.length<=64/\j.2.1.length<=100/\j.2.2.length<=64:=by
 have hr:=jE h;refine⟨?_,(mR hr.dom).2.2.1,?_⟩
 ·rcases hr.loc with e|e
  ·rw[e];simp
  ·exact e.2
 ·rcases hr.res with e|e
  ·rw[e];simp
  ·exact e.2
theorem bare_ok {s:List UInt8} {j:J} (h:parseL s=(j,0)) (h2:j.2.2=[]):bareL s=(textL j,0):=by unfold bareL;rw[h,if_pos rfl,if_pos h2]
theorem bare_res {s:List UInt8} {j:J} (h:parseL s=(j,0)) (h2:j.2.2≠[]):bareL s=([],14):=by unfold bareL;rw[h,if_pos rfl,if_neg h2]
theorem bare_bad {s:List UInt8} (h:(parseL s).2≠0):bareL s=([],(parseL s).2):=by unfold bareL;rw[if_neg h]
theorem bare_back {s:List UInt8} {j:J} (h:parseL s=(j,0)) (h2:j.2.2=[]):bareL (textL j)=(textL j,0):=bare_ok (rx h) h2
def ltL (a b:List UInt8):Bool:=Op.bytesLess a b
theorem lt_irr:∀ a:List UInt8,ltL a a=false
 |[]=>rfl
 | x::a=>by have:=lt_irr a;unfold ltL at this ⊢;simp[Op.bytesLess,this]
theorem lt_tri:∀ a b:List UInt8,(ltL a b=true/\ltL b a=false/\a≠b)\/(ltL a b=false/\ltL b a=true/\a≠b)\/(ltL a b=false/\ltL b a=false/\a=b)
 |[],[]=>.inr (.inr ⟨rfl,rfl,rfl⟩)
 |[],_::_=>.inl ⟨rfl,rfl,by simp⟩
 |_::_,[]=>.inr (.inl ⟨rfl,rfl,by simp⟩)
 | x::a,y::b=>by
   have ih:=lt_tri a b;unfold ltL at ih ⊢;by_cases h:x=y
   ·subst h;simpa [Op.bytesLess] using ih
   ·have h2:(x==y)=false:=(by simpa using h);have h3:(y==x)=false:=(by simpa using Ne.symm h);rcases UInt8.lt_or_lt_of_ne h with h4|h4
    ·have h5:¬ y<x:=UInt8.lt_asymm h4;left;simp[Op.bytesLess,h2,h3,h4,h5,h]
    ·have h5:¬ x<y:=UInt8.lt_asymm h4;right;left;simp[Op.bytesLess,h2,h3,h4,h5,h]
theorem lt_trans:∀ a b c:List UInt8,ltL a b=true->ltL b c=true->ltL a c=true
 |_,[],c,h,_=>by unfold ltL at h;cases ‹List UInt8›<;>simp[Op.bytesLess] at h
 |_,_::_,[],_,h=>by unfold ltL at h;simp[Op.bytesLess] at h
 |[],_::_,_::_,_,_=>rfl
 | x::a,y::b,z::c,h1,h2=>by
   have ih:=lt_trans a b c;unfold ltL at ih h1 h2 ⊢;simp only[Op.bytesLess,Bool.or_eq_true,Bool.and_eq_true,decide_eq_true_eq,beq_iff_eq] at h1 h2 ⊢;rcases h1 with h1|⟨rfl,h1⟩
   ·rcases h2 with h2|⟨rfl,h2⟩
    ·exact .inl (UInt8.lt_trans h1 h2)
    ·exact .inl h1
   ·rcases h2 with h2|⟨rfl,h2⟩
    ·exact .inl h2
    ·exact .inr ⟨rfl,ih h1 h2⟩
theorem compare_lt:∀ a b:List UInt8,Lib.compareBytes a b=if ltL a b then -1 else if a=b then 0 else 1
 |[],[]=>rfl
 |[],_::_=>rfl
 |_::_,[]=>rfl
 | x::a,y::b=>by
   have ih:=compare_lt a b;unfold Lib.compareBytes;unfold ltL at ih ⊢;by_cases h:x<y
   ·rw[if_pos h,if_pos (by simp[Op.bytesLess,h])]
   ·by_cases h2:y<x
    ·rw[if_neg h,if_pos h2,if_neg,if_neg]
     ·intro e;injection e with e _;subst e;exact h h2
     ·have:x≠y:=(fun e=>by subst e;exact h h2);simp[Op.bytesLess,h,this]
    ·have e:x=y:=UInt8.le_antisymm (UInt8.not_lt.1 h2) (UInt8.not_lt.1 h);subst e;rw[if_neg h,if_neg h,ih];simp[Op.bytesLess]
def dmL (s:List UInt8):List UInt8:=(halfL s).2.1
def lessL (a b:List UInt8):Bool:=ltL (dmL a) (dmL b)||(dmL a==dmL b&&ltL a b)
attribute [irreducible] ltL
end Jd
end
end Go.Proofs.YtbgaglcgennhiaaGreatDoor


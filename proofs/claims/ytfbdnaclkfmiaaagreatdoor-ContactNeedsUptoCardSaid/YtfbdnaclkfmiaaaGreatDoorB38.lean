import Derived.Test.YtfbdnaclkfmiaaaGreatDoorB37
import Derived.Shelf.SlicesE.Clone
namespace Go.Proofs.YtfbdnaclkfmiaaaGreatDoor
open Go.RowKit Vc Ct
theorem row_kept {w w':World} {B:Nat} {T:TypeId} {k n:Nat} {v:Value} {xs:List Value} (h:w.ownsRow B T k v n xs) (hb:∀ g,v.ownBlock=some g→w'.heap[g]?=w.heap[g]?):w'.ownsRow B T k v n xs :=
  ⟨h.1,h.2.imp id fun ⟨g,cap,cur,k1,k2,k3,k4⟩=>⟨g,cap,cur,k1,k2,(hb g (by rw[k1];rfl)).trans k3,k4⟩⟩
theorem row_below {w w':World} {B:Nat} {T:TypeId} {k n:Nat} {v:Value} {xs:List Value} (h:w.ownsRow B T k v n xs) (hb:Below w.heap.size w w'):w'.ownsRow B T k v n xs :=
  row_kept h fun g hg=>hb.block g (World.ownsRow.lt h g hg).2
theorem row_slice {w:World} {B:Nat} {T:TypeId} {k n:Nat} {v:Value} {xs:List Value} (h:w.ownsRow B T k v n xs):∃ A cap,v=.slice A n cap:=by
  rcases h.2 with ⟨rfl,h0⟩ | ⟨g,cap,cur,rfl,_⟩
  · exact⟨none,0,by rw[h0]⟩
  · exact⟨_,_,rfl⟩
theorem row_apart {w:World} {B C:Nat} {T U:TypeId} {k j n m:Nat} {v u:Value} {xs ys:List Value} (h:w.ownsRow B T k v n xs) (h2:w.ownsRow C U j u m ys) (hne:T≠U):∀ g,v.ownBlock=some g→some g≠u.ownBlock:=by
  intro g hg hu
  rcases h.2 with ⟨rfl,_⟩ | ⟨g1,c1,cur1,rfl,_,hh1,_⟩
  · cases hg
  · rcases h2.2 with ⟨rfl,_⟩ | ⟨g2,c2,cur2,rfl,_,hh2,_⟩
    · cases hu
    · injection hg with hg
      injection hu with hu
      subst hg
      have e:g2=g1:=hu.symm
      subst e
      exact Bk.type_ne (show Bk w g2 T cur1 from hh1) (show Bk w g2 U cur2 from hh2) hne rfl
theorem wp_push_gen {o:Oper} {a:Act} {K:Act→World→Prop} {Q:Exit→Act→World→Prop} {S T:TypeId} {z:Value} {k bytes:Nat} (hS : Tryz.prog.underlying S=some (.slice T)) (hi:(Tryz.prog.info? T).map (fun i=>(i.zero,i.size,i.bytes))=some (some z,k,bytes)) (hzc:z.cells.size=k) (hk0:0 < k)
    (s x:Operand) (ho:o.op=.call { callee:=.builtin .append,args:=#[s,x],argTypes:=#[S,S] })
    (B:Nat) (v:Value) (n:Nat) (xs ys:List Value) (cs:Array Value) (hcs:cs.toList=ys) (hyl:ys.length=k) (w0:World) (hs:a.eval s=v) (hown:w0.ownsRow B T k v n xs) (hx:a.eval x=.slice (some ⟨w0.heap.size,0,none⟩) 1 1) (h1:∀ u∈ys,u.oneCell'=true)
    (hb:(n+1)*bytes≤140737488355328) (hn:n≤1000000000) (hB:B≤w0.heap.size)
    (h:∀ v' w',w'.ownsRow B T k v' (n+1) (xs++ys)→Below B w0 w'→(∀ g,g < w0.heap.size→some g≠v.ownBlock→w'.heap[g]?=w0.heap[g]?)→K (a.put o.dst v') w'):o.wp Tryz.prog a (w0.alloc (.cells cs T)) K Q:=by
  obtain⟨i0,hi,hz0,hz1,hz2⟩:=info_parts hi
  subst hcs
  refine wp_append_own _ s x S ho B T i0 z k bytes hS hi hz0 hz1 hz2 hzc hk0 v n xs hs (hown.alloc _) ⟨w0.heap.size,0,none⟩ 1 1 cs.toList hx (by omega) ?_ h1 ?_ hb (by simp;omega) ?_
  · intro j u hj
    rw[add_at,cell_of_row _ _ _ cs _ (0,0) (heap_alloc_new w0 _),Nat.zero_add]
    simpa using hj
  · unfold maxLen;omega
  · intro v' w' h1 hg _
    refine h v' w' h1 (((Below.refl B w0).alloc hB _).grown hg (by simp;omega) (fun j hj=>(World.ownsRow.lt hown j hj).1)) (fun g hg2 hne=>?_)
    exact(hg.block g (by simp;omega) hne).trans (Below.heap_alloc w0 _ g hg2)
theorem step_gen {ops:Array Oper} {o:Oper} {a:Act} {K:Act→World→Prop} {Q:Exit→Act→World→Prop} {E:Prop} {S T:TypeId} {z:Value} {k bytes:Nat} (hS : Tryz.prog.underlying S=some (.slice T)) (hi:(Tryz.prog.info? T).map (fun i=>(i.zero,i.size,i.bytes))=some (some z,k,bytes)) (hzc:z.cells.size=k) (hk0:0 < k)
    (hgd:o.guard=none) (s x:Operand) (ho:o.op=.call { callee:=.builtin .append,args:=#[s,x],argTypes:=#[S,S] })
    (B:Nat) (v:Value) (n:Nat) (xs ys:List Value) (cs:Array Value) (hcs:cs.toList=ys) (hyl:ys.length=k) (w0:World) (hs:a.eval s=v) (hown:w0.ownsRow B T k v n xs) (hx:a.eval x=.slice (some ⟨w0.heap.size,0,none⟩) 1 1) (h1:∀ u∈ys,u.oneCell'=true)
    (hb:(n+1)*bytes≤140737488355328) (hn:n≤1000000000) (hB:B≤w0.heap.size)
    (h:∀ v' w',w'.ownsRow B T k v' (n+1) (xs++ys)→Below B w0 w'→(∀ g,g < w0.heap.size→some g≠v.ownBlock→w'.heap[g]?=w0.heap[g]?)→K (a.put o.dst v') w'):if Region.wanted o (yielded ops a.tmps)=true then Oper.wp Tryz.prog o a (w0.alloc (.cells cs T)) K Q else E:=by
  rw[if_pos (by simp[Region.wanted,hgd])]
  exact wp_push_gen hS hi hzc hk0 s x ho B v n xs ys cs hcs hyl w0 hs hown hx h1 hb hn hB h
theorem infoPr4:(Tryz.prog.info? 41).map (fun i=>(i.zero,i.size,i.bytes))=some (some (.agg #[.string ⟨#[]⟩,.string ⟨#[]⟩,.slice none 0 0,.string ⟨#[]⟩]),4,72):=by kernel_rfl
theorem infoFnd:(Tryz.prog.info? 70).map (fun i=>(i.zero,i.size,i.bytes))=some (some (.agg #[.string ⟨#[]⟩,.string ⟨#[]⟩,.string ⟨#[]⟩,Value.nilFunc,Value.nilFunc,.string ⟨#[]⟩,.string ⟨#[]⟩,.slice none 0 0,.string ⟨#[]⟩]),9,136):=by kernel_rfl
def encF (b:Nat→Nat) (x:Nat × PrV):List Value:=encK b x.1++encP x.2
def fns (b:Nat→Nat) (l:List (Nat × PrV)):List Value:=l.flatMap (encF b)
theorem fns_snoc (b:Nat→Nat) (l:List (Nat × PrV)) (x:Nat × PrV):fns b (l++[x])=fns b l++encF b x:=by simp[fns]
theorem prv_snoc (l:List PrV) (x:PrV):prv (l++[x])=prv l++encP x:=by unfold prv;simp
def FindS (b:Nat→Nat) (W0:World) (B:Nat) (l:List Pr) (w:World) (fv ov:Value) (zs:List Nat):Prop:=∃ (fs:List (Nat × PrV)) (os:List PrV),foundF l=(zs,fs.map (fun x=>(x.1,x.2.1)),os.map (·.1)) ∧
  w.ownsRow B 70 9 fv fs.length (fns b fs)∧w.ownsRow B 41 4 ov os.length (prv os)∧(∀ x∈fs,SeenA W0 x.2.2 x.2.1.2.2.1)∧∀ x∈os,SeenA W0 x.2 x.1.2.2.1
theorem FindS.kept {b:Nat→Nat} {W0:World} {B:Nat} {l:List Pr} {w w':World} {fv ov:Value} {zs:List Nat} (h:FindS b W0 B l w fv ov zs) (hb:Below w.heap.size w w'):FindS b W0 B l w' fv ov zs:=by
  obtain⟨fs,os,h1,h2,h3,h4⟩:=h
  exact⟨fs,os,h1,row_below h2 hb,row_below h3 hb,h4⟩
theorem FindS.start (b:Nat→Nat) (W0 w:World) (B:Nat):FindS b W0 B [] w (.slice none 0 0) (.slice none 0 0) allK :=
  ⟨[],[],rfl,World.ownsRow_nil _ _ _ _,by rw[prv_nil];exact World.ownsRow_nil _ _ _ _,(fun x h=>by cases h),(fun x h=>by cases h)⟩
theorem fs_lens {l:List Pr} {zs:List Nat} {fs:List (Nat × PrV)} {os:List PrV} (h:foundF l=(zs,fs.map (fun x=>(x.1,x.2.1)),os.map (·.1))):fs.length≤l.length∧os.length≤l.length:=by
  have:=found_len l
  rw[h] at this
  simp only[List.length_map] at this
  omega
theorem row_but {S:Nat→Prop} {w w':World} {B:Nat} {T:TypeId} {k n:Nat} {v:Value} {xs:List Value} (h:w.ownsRow B T k v n xs) (hb:But S w w') (hs:∀ i,B≤i→¬ S i):w'.ownsRow B T k v n xs :=
  row_kept h fun g hg=>hb.block g (World.ownsRow.lt h g hg).2 (hs g (World.ownsRow.lt h g hg).1)
def FoundV (b:Nat→Nat) (V:World) (B:Nat) (l:List Pr) (e:Ending) (w':World):Prop:=∃ (fv ov:Value) (zs:List Nat),e=.returned (.tuple #[fv,ov])∧FindS b V B l w' fv ov zs
theorem FindS.weak {b:Nat→Nat} {W0:World} {B C:Nat} {l:List Pr} {w:World} {fv ov:Value} {zs:List Nat} (h:FindS b W0 B l w fv ov zs) (hC:C≤B):FindS b W0 C l w fv ov zs:=by
  obtain⟨fs,os,h1,h2,h3,h4⟩:=h
  exact⟨fs,os,h1,⟨h2.1,h2.2.imp id fun ⟨g,cap,cur,k1,k2,k3⟩=>⟨g,cap,cur,k1,Nat.le_trans hC k2,k3⟩⟩,⟨h3.1,h3.2.imp id fun ⟨g,cap,cur,k1,k2,k3⟩=>⟨g,cap,cur,k1,Nat.le_trans hC k2,k3⟩⟩,h4⟩
theorem free_of_row {b:Nat→Nat} {B:Nat} {w:World} {v:Value} {zs:List Nat} {n:Nat} (h:w.ownsRow B 64 5 v n (kds b zs)) (h0:0 < n):∃ f cap,v=.slice (some ⟨f,0,none⟩) n cap∧B≤f∧n≤cap∧FreeAt b w f zs:=by
  rcases h.2 with ⟨rfl,h1⟩ | ⟨g,cap,cur,rfl,hg,hh,h1,h2,h3,h4⟩
  · omega
  · have hk:Bk w g 64 cur:=hh
    refine⟨g,cap,rfl,hg,h1,hk.lt,fun j u hj=>⟨?_,hk.free j⟩⟩
    have:=h.cells (g:=g) rfl j u hj
    rw[add_at,Nat.zero_add] at this
    exact this
set_option maxHeartbeats 8000000 in
set_option maxRecDepth 100000 in
theorem find_any (b:Nat→Nat) (gk:Nat) (v:Value) (l:List Pr) (W V:World) (hV:Below V.heap.size V W) (hK:Bk W gk 64 ((kds b allK).toArray)) (hR:SeenP V v l) (hl:l.length≤1000000) (hfew:∀ p∈l,p.2.2.1.length≤1000000000) :
    Calls Tryz.prog 28 #[.slice (some ⟨gk,0,none⟩) 9 9,v,.func (.func 30) #[] #[]] W fun e w'=>FoundV b V W.heap.size l e w'∧Below W.heap.size W w':=by
  obtain⟨A,pcap,rfl,hcell0⟩:=hR
  have hcell:0 < l.length→∃ ad:Addr,A=some ad∧ad.block < W.heap.size∧∀ i x,l[i]?=some x→∃ u,AtP W (ad.add (i*4)) x u∧SeenA V u x.2.2.1:=fun h0=>by
    obtain⟨ad,e,h1,h2⟩:=hcell0 h0
    refine⟨ad,e,Nat.lt_of_lt_of_le h1 hV.size,fun i x hi=>?_⟩
    obtain⟨u,k1,k2⟩:=h2 i x hi
    exact⟨u,k1.of (hV.block _ (by rw[addBlock];exact h1)),k2⟩
  have HV:=Lib.hid hV
  clear hcell0 hV
  obtain⟨n,hn⟩:∃ n,l.length=n:=⟨_,rfl⟩
  have HN:=Lib.hid hn
  rw[hn] at hcell hl ⊢
  have HC:=Lib.hid hcell
  have HFW:=Lib.hid hfew
  obtain⟨hb,hhb⟩:∃ hb,W.heap.size=hb:=⟨_,rfl⟩
  obtain⟨W1,hW1⟩:∃ W1,W.alloc (.cells #[.func (.func 30) #[] #[]] 67)=W1:=⟨_,rfl⟩
  have b1:Below W.heap.size W W1:=by rw[← hW1];exact(Below.refl _ _).alloc (Nat.le_refl _) _
  have k1:Bk W1 hb 67 #[.func (.func 30) #[] #[]]:=by rw[← hW1,← hhb];exact Bk.new _ _ _
  obtain⟨i0,hi0,hz0,hz1,hz2⟩:=info_parts infoKnd
  have hcl:=AnyE.slices_Clone Tryz.cloneKind i0 _ 5 64 hi0 hz0 hz1 hz2 rfl (by decide) Tryz.sizeOf64 gk 0 9 9 (kds b allK) W1 (by rw[kds_length];rfl) (by decide) (by decide) (fun j u hj=>by
    rw[Nat.zero_add,(hK.below b1 hK.lt).cell,List.getElem?_toArray]
    exact hj) (kds_one b allK)
  have HCL:Hid (Calls Tryz.prog 60 #[.slice (some ⟨gk,0,none⟩) 9 9] W1 fun e w'=>∃ v',e=.returned v'∧w'.ownsRow W1.heap.size 64 5 v' 9 (kds b allK)∧v'≠.slice none 0 0∧Below W1.heap.size W1 w'):=hcl
  have B1:=Lib.hid b1
  have K1:=Lib.hid k1
  clear hcell hn hfew b1 k1 hi0 hz0 hz1 hz2 hcl hK
  go_enter Tryz.func28,Tryz.ntmps28
  go_wp2_with fail
  refine HCL.out.mono ?_
  rintro e w2 ⟨v2,rfl,o2,-,b2⟩
  obtain⟨f,cap,rfl,hf1,hf2,hf3⟩:=free_of_row o2 (by decide)
  have k2:=K1.out.below b2 K1.out.lt
  obtain⟨B,hB⟩:∃ B,w2.heap.size=B:=⟨_,rfl⟩
  have HBD:=Lib.hid hB
  have K2:=Lib.hid k2
  have B2:Hid (Below W.heap.size W w2):=B1.out.trans (b2.mono B1.out.size)
  have F2:=Lib.hid hf3
  have HFB:Hid (f < B∧hb < B∧W.heap.size≤f∧hb≠f):=⟨by rw[← hB];exact hf3.1,by rw[← hB];exact k2.lt,by have:=B1.out.size;omega,by have:=K1.out.lt;omega⟩
  have S2:Hid (FindS b V B (l.take 0) w2 (.slice none 0 0) (.slice none 0 0) allK):=FindS.start b V w2 B
  clear o2 b2 k2 hf1 hf3 hB hW1 hhb
  go_wp2_with fail
  go_loopw [6,7,8,16] (fun fv ov sv iv wr=>∃ (k zn:Nat) (fx ox:Value) (zs:List Nat),fv=fx∧ov=ox∧sv=.slice (some ⟨f,0,none⟩) zn cap∧iv=.int .i64 k∧k≤n∧zn≤9∧Hid (zs.length=zn)∧Hid (FindS b V B (l.take k) wr fx ox zs)∧Hid (FreeAt b wr f zs)∧Hid (But (·=f) w2 wr)) (fun _ _ _ iv _=>n - (intOf iv).toNat)
  case atStart=>exact⟨0,9,_,_,allK,rfl,rfl,rfl,rfl,Nat.zero_le _,Nat.le_refl _,rfl,S2,F2,But.refl _ _⟩
  case round =>
    obtain⟨k,zn,fx,ox,zs,hfx,hox,rfl,rfl,hk,hz9,ZL,FS,FA,BW⟩:=hrel
    have hfx2:=hfx.symm
    subst hfx2
    have hox2:=hox.symm
    subst hox2
    clear hfx hox
    have bw:Below W.heap.size W wr:=B2.out.trans (BW.out.below (by rw[HBD.out];have:=HFB.out;omega) (fun i hi e=>by have:=HFB.out;omega))
    have HBW:=Lib.hid bw
    by_cases hlt:k < n
    · obtain⟨ad,rfl,hlb,hcell⟩:=HC.out (by omega)
      obtain⟨p,hp⟩:∃ p,l[k]?=some p:=⟨_,List.getElem?_eq_getElem (by rw[HN.out];exact hlt)⟩
      obtain⟨u,hat,hru⟩:=hcell k p hp
      obtain⟨c0,c1,c2,c3⟩:=hat.of (w':=wr) (bw.block _ (by rw[addBlock];exact hlb))
      have HRU:=Lib.hid hru
      have hpf:=HFW.out p (List.mem_of_getElem? hp)
      have HPF:=Lib.hid hpf
      obtain⟨UA,ucap,hua,-⟩:=hru
      obtain⟨un,hun⟩:∃ un,p.2.2.1.length=un:=⟨_,rfl⟩
      rw[hun] at hua
      subst hua
      obtain⟨x0,e0⟩:∃ a,bts p.1=a:=⟨_,rfl⟩
      obtain⟨x1,e1⟩:∃ a,bts p.2.1=a:=⟨_,rfl⟩
      obtain⟨x3,e3⟩:∃ a,bts p.2.2.2=a:=⟨_,rfl⟩
      have HEP:Hid (encP (p,Value.slice UA un ucap)=[.string x0,.string x1,.slice UA un ucap,.string x3]):=by rw[← e0,← e1,← e3];rfl
      rw[e0] at c0
      rw[e1] at c1
      rw[e3] at c3
      have HTK:=Lib.hid (found_take hp)
      have HKL:Hid ((l.take k).length≤1000000):=by unfold Hid;rw[List.length_take];omega
      -- the thing's own block
      obtain⟨tb,htb⟩:∃ tb,wr.heap.size=tb:=⟨_,rfl⟩
      obtain⟨W5,hW5⟩:∃ W5,wr.alloc (.cells #[.string x0,.string x1,.slice UA un ucap,.string x3] 41)=W5:=⟨_,rfl⟩
      have b5:Below wr.heap.size wr W5:=by rw[← hW5];exact(Below.refl _ _).alloc (Nat.le_refl _) _
      have k5:Bk W5 tb 41 #[.string x0,.string x1,.slice UA un ucap,.string x3]:=by rw[← hW5,← htb];exact Bk.new _ _ _
      have hbb:=BW.out.bk K2.out HFB.out.2.2.2
      have f5:=FA.out.but (But.new (S:=fun _=>False) b5) (fun h=>h)
      have hidx:Hid (∀ W',W'=W5→Calls Tryz.prog 61 #[.slice (some ⟨f,0,none⟩) zn cap,.func (.func 62) #[] #[.pointer (some ⟨hb,0,none⟩),.pointer (some ⟨tb,0,none⟩)]] W' fun e w'=>e=.returned (.int .i64 (Lib.idxBy (fun (_ y:Nat)=>hasB y p) zs default))∧Below W5.heap.size W5 w'):=fun W' hW'=>by
        subst hW'
        have h:=AnyQ.slices_IndexFunc Tryz.idxKind 5 Tryz.isAgg64 Tryz.sizeOf64 (encK b) (fun _=>rfl) (fun i=>hasB i p) 62 #[.pointer (some ⟨hb,0,none⟩),.pointer (some ⟨tb,0,none⟩)] (Go.Proofs.enters_of Tryz.func62 (by kernel_rfl) rfl) f 0 zn cap zs W'
          (fun W6 x h6=>by
            have h7:=asked_any b x p (.slice UA un ucap) hb tb W6 (((HRU.out.below HV.out).reads).below (HBW.out.trans ((b5.mono HBW.out.size).trans (h6.mono (by have:=HBW.out.size;have:=b5.size;omega))))) HPF.out ((hbb.below b5 hbb.lt).below h6 (hbb.below b5 hbb.lt).lt) (by rw[e0,e1,e3];exact k5.below h6 k5.lt)
            exact h7.mono fun e w' h=>⟨h.1,h6.trans (h.2.mono h6.size)⟩)
          (by rw[ZL.out];exact Nat.le_refl _) (by omega) f5.1 (fun j hj i v hv=>by
            have hi:i < 5:=by have:=(List.getElem?_eq_some_iff.1 hv).1;rw[encK_len] at this;exact this
            rw[Nat.zero_add]
            refine(f5.2 (j*5+i) v ?_).1
            rw[kds_get b (z:=zs[j]!) (by rw[getElem!_pos zs j hj];exact List.getElem?_eq_getElem hj) hi]
            exact hv)
        rw[show zs.take zn=zs from List.take_of_length_le (by rw[ZL.out];exact Nat.le_refl _)] at h
        exact h
      have HIX:=Lib.hid (hidx.out W5 rfl)
      have HIF:=Lib.hid (idx_find zs p)
      have B5:=Lib.hid b5
      have K5:=Lib.hid k5
      have F5:=Lib.hid f5
      have HTB:Hid (B≤tb):=by have:=BW.out.size;have:=HBD.out;unfold Hid;omega
      have htbc:=htb
      clear hcell hat hp hun e0 e1 e3 bw b5 k5 f5 hbb hidx hpf hlb
      go_upto_region 5 with fail
      obtain⟨fs,os,hfo,hfr,hor,hra,hro⟩:=FS.out
      obtain⟨hfl,hol⟩:=fs_lens hfo
      have HFO:=Lib.hid hfo
      have HRA:=Lib.hid hra
      have HRO:=Lib.hid hro
      obtain⟨fm,hfm⟩:∃ m,fs.length=m:=⟨_,rfl⟩
      obtain⟨om,hom⟩:∃ m,os.length=m:=⟨_,rfl⟩
      have HFM:=Lib.hid hfm
      have HOM:=Lib.hid hom
      rw[hfm] at hfr hfl
      rw[hom] at hor hol
      have hfmb:fm≤1000000:=Nat.le_trans hfl HKL.out
      have homb:om≤1000000:=Nat.le_trans hol HKL.out
      obtain⟨FA1,fcap,rfl⟩:=row_slice hfr
      obtain⟨OA1,ocap,rfl⟩:=row_slice hor
      have HFR:=Lib.hid (row_below hfr B5.out)
      have HOR:=Lib.hid (row_below hor B5.out)
      have HAP:=Lib.hid (row_apart hfr hor (by decide))
      have HAP2:=Lib.hid (row_apart hor hfr (by decide))
      clear hfo hfr hor hra hro hfl hol hfm hom
      cases hfi:zs.findIdx? (fun i=>hasB i p) with
      | none =>
        have e1:Lib.idxBy (fun (_ y:Nat)=>hasB y p) zs default=-1:=by rw[HIF.out,hfi]
        rw[e1] at HIX
        have hst:Hid (foundF (l.take (k+1))=(zs,fs.map (fun x=>(x.1,x.2.1)),(os++[(p,Value.slice UA un ucap)]).map (·.1))):=by
          unfold Hid
          rw[HTK.out,HFO.out]
          unfold stepF
          simp only[hfi,List.map_append,List.map_cons,List.map_nil]
        clear e1 hfi
        go_wp2_with fail
        refine HIX.out.mono ?_
        rintro e w6 ⟨rfl,b6⟩
        have k6:=K5.out.below b6 K5.out.lt
        have t0:w6.cell? ⟨tb,0,none⟩=some (.string x0):=k6.cell 0
        have t1:w6.cell? ⟨tb,1,none⟩=some (.string x1):=k6.cell 1
        have t2:w6.cell? ⟨tb,2,none⟩=some (.slice UA un ucap):=k6.cell 2
        have t3:w6.cell? ⟨tb,3,none⟩=some (.string x3):=k6.cell 3
        have O6:=Lib.hid (row_below HOR.out b6)
        have R6:=Lib.hid (row_below HFR.out b6)
        have Z6:Hid (B≤w6.heap.size):=by have:=b6.size;have:=B5.out.size;have:=BW.out.size;have:=HBD.out;unfold Hid;omega
        have B6:=Lib.hid b6
        have hb1:Hid ((om+1)*72≤140737488355328):=by unfold Hid;omega
        have hb2:Hid (om≤1000000000):=by unfold Hid;omega
        have hon:Hid (∀ u∈encP (p,Value.slice UA un ucap),u.oneCell'=true):=fun u hu=>by
          rw[HEP.out] at hu
          simp only[List.mem_cons,List.not_mem_nil,or_false] at hu
          rcases hu with rfl | rfl | rfl | rfl<;>rfl
        clear b6 k6
        go_wp2_with (at_builtin;refine push_gen Tryz.underlying22 infoPr4 rfl (by decide) rfl _ _ rfl B (.slice OA1 om ocap) om (prv os) (encP (p,Value.slice UA un ucap)) #[.string x0,.string x1,.slice UA un ucap,.string x3] (by rw[HEP.out]) rfl w6 rfl O6.out rfl hon.out hb1.out hb2.out Z6.out ?_)
        intro v7 w7 o7 b7 h7
        have S7:Hid (FindS b V B (l.take (k+1)) w7 (.slice FA1 fm fcap) v7 zs):=by
          refine⟨fs,os++[(p,Value.slice UA un ucap)],hst.out,?_,?_,HRA.out,fun x hx=>?_⟩
          · rw[HFM.out]
            exact row_kept R6.out fun g hg=>h7 g (World.ownsRow.lt R6.out g hg).2 (HAP.out g hg)
          · rw[prv_snoc,List.length_append,HOM.out]
            exact o7
          · rcases List.mem_append.1 hx with hx | hx
            · exact HRO.out x hx
            · rw[List.mem_singleton] at hx;rw[hx];exact HRU.out
        have F7:Hid (FreeAt b w7 f zs):=((F5.out.but (But.new (S:=fun _=>False) B6.out) (fun h=>h)).but (But.of_below (S:=fun i=>B≤i) b7 (fun i h _=>h)) (fun h=>by have:=HFB.out;omega))
        have BW7:Hid (But (·=f) w2 w7):=((BW.out.trans (But.new B5.out)).trans (But.new B6.out)).on (by rw[HBD.out];exact b7)
        obtain⟨A7,m7,p7,rfl⟩:∃ A n cap,v7=.slice A n cap:=by obtain⟨A,cap,e⟩:=row_slice o7;exact⟨A,_,cap,e⟩
        clear o7 b7 h7 t0 t1 t2 t3
        go_wp2_with fail
        go_roundw
        case rel=>exact⟨k+1,zn,_,_,zs,rfl,rfl,rfl,by go_num,by omega,hz9,ZL,S7,F7,BW7⟩
        case measure=>simp[intOf];omega
      | some a =>
        have e1:Lib.idxBy (fun (_ y:Nat)=>hasB y p) zs default=(a:Nat):=by rw[HIF.out,hfi]
        rw[e1] at HIX
        obtain⟨ha,-,-⟩:=List.findIdx?_eq_some_iff_getElem.1 hfi
        obtain⟨z,hz⟩:∃ z,zs[a]?=some z:=⟨_,List.getElem?_eq_getElem ha⟩
        have hgd:zs.getD a 0=z:=by rw[List.getD_eq_getElem?_getD,hz];rfl
        have hst:Hid (foundF (l.take (k+1))=(zs.eraseIdx a,(fs++[(z,(p,Value.slice UA un ucap))]).map (fun x=>(x.1,x.2.1)),os.map (·.1))):=by
          unfold Hid
          rw[HTK.out,HFO.out]
          unfold stepF
          simp only[hfi,hgd,List.map_append,List.map_cons,List.map_nil]
        rw[ZL.out] at ha
        have HZ:=Lib.hid hz
        obtain⟨N0,hN0⟩:∃ X,bts (kname z)=X:=⟨_,rfl⟩
        obtain⟨N1,hN1⟩:∃ X,bts (kstart z)=X:=⟨_,rfl⟩
        obtain⟨N2,hN2⟩:∃ X,bts (ksep z)=X:=⟨_,rfl⟩
        obtain⟨PV,hPV⟩:∃ X,putV b z=X:=⟨_,rfl⟩
        obtain⟨TV,hTV⟩:∃ X,textsV b z=X:=⟨_,rfl⟩
        have hek:encK b z=[.string N0,.string N1,.string N2,PV,TV]:=by rw[← hN0,← hN1,← hN2,← hPV,← hTV];rfl
        have HEF:Hid (encF b (z,(p,Value.slice UA un ucap))=[.string N0,.string N1,.string N2,PV,TV,.string x0,.string x1,.slice UA un ucap,.string x3]):=by unfold Hid encF;rw[HEP.out,hek];rfl
        have hone:=encK_one b z
        rw[hek] at hone
        have HONE:=Lib.hid hone
        have HEK:=Lib.hid hek
        clear e1 hfi hgd hz hN0 hN1 hN2 hPV hTV hek hone
        go_wp2_with fail
        refine HIX.out.mono ?_
        rintro e w6 ⟨rfl,b6⟩
        have k6:=K5.out.below b6 K5.out.lt
        have t0:w6.cell? ⟨tb,0,none⟩=some (.string x0):=k6.cell 0
        have t1:w6.cell? ⟨tb,1,none⟩=some (.string x1):=k6.cell 1
        have t2:w6.cell? ⟨tb,2,none⟩=some (.slice UA un ucap):=k6.cell 2
        have t3:w6.cell? ⟨tb,3,none⟩=some (.string x3):=k6.cell 3
        have f6:=F5.out.but (But.new (S:=fun _=>False) b6) (fun h=>h)
        have hce:∀ i v,i < 5→(encK b z)[i]?=some v→w6.cell? ⟨f,a*5+i,none⟩=some v:=fun i v hi hv=>(f6.2 (a*5+i) v (by rw[kds_get b HZ.out hi];exact hv)).1
        rw[HEK.out] at hce
        have z0:w6.cell? ⟨f,a*5,none⟩=some (.string N0):=hce 0 _ (by decide) rfl
        have z1:w6.cell? ⟨f,a*5+1,none⟩=some (.string N1):=hce 1 _ (by decide) rfl
        have z2:w6.cell? ⟨f,a*5+2,none⟩=some (.string N2):=hce 2 _ (by decide) rfl
        have z3:w6.cell? ⟨f,a*5+3,none⟩=some PV:=hce 3 _ (by decide) rfl
        have z4:w6.cell? ⟨f,a*5+4,none⟩=some TV:=hce 4 _ (by decide) rfl
        have F6:=Lib.hid f6
        have O6:=Lib.hid (row_below HOR.out b6)
        have R6:=Lib.hid (row_below HFR.out b6)
        have Z6:Hid (B≤w6.heap.size):=by have:=b6.size;have:=B5.out.size;have:=BW.out.size;have:=HBD.out;unfold Hid;omega
        have B6:=Lib.hid b6
        have hb1:Hid ((fm+1)*136≤140737488355328):=by unfold Hid;omega
        have hb2:Hid (fm≤1000000000):=by unfold Hid;omega
        have hon:Hid (∀ u∈encF b (z,(p,Value.slice UA un ucap)),u.oneCell'=true):=fun u hu=>by
          rw[HEF.out] at hu
          rcases List.mem_append.1 (show u∈[.string N0,.string N1,.string N2,PV,TV]++[.string x0,.string x1,.slice UA un ucap,.string x3] from hu) with hu | hu
          · exact HONE.out u hu
          · simp only[List.mem_cons,List.not_mem_nil,or_false] at hu
            rcases hu with rfl | rfl | rfl | rfl<;>rfl
        clear b6 k6 f6 hce
        go_wp2_with fail
        go_region_law (refine step_gen Tryz.underlying58 infoFnd rfl (by decide) rfl (.tmp 29) (.tmp 36) rfl B (.slice FA1 fm fcap) fm (fns b fs) (encF b (z,(p,Value.slice UA un ucap))) #[.string N0,.string N1,.string N2,PV,TV,.string x0,.string x1,.slice UA un ucap,.string x3] (by rw[HEF.out]) rfl w6.drew rfl R6.out rfl hon.out hb1.out hb2.out Z6.out ?_;intro v7 w7 o7 b7 h7)
        all_goals
          have O7:Hid (w7.ownsRow B 70 9 v7 (fs++[(z,(p,Value.slice UA un ucap))]).length (fns b (fs++[(z,(p,Value.slice UA un ucap))]))):=by
            unfold Hid
            rw[fns_snoc,List.length_append,HFM.out]
            exact o7
          have F7:Hid (FreeAt b w7 f zs):=F6.out.but (But.of_below (S:=fun i=>B≤i) ((Below.refl B w6).drew.trans b7) (fun i h _=>h)) (fun h=>by have:=HFB.out;omega)
          have OS7:Hid (w7.ownsRow B 41 4 (.slice OA1 om ocap) om (prv os)):=row_kept O6.out fun g hg=>h7 g (World.ownsRow.lt O6.out g hg).2 (HAP2.out g hg)
          have BW7:Hid (But (·=f) w2 w7):=((BW.out.trans (But.new B5.out)).trans (But.new B6.out)).on (by rw[HBD.out];exact(Below.refl B w6).drew.trans b7)
          have hdel:=delete_any b zs zn a (a+1) ZL.out hz9 ha rfl f cap (by omega) w7 F7.out
          have HD:Hid (Calls Tryz.prog 63 #[.slice (some ⟨f,0,none⟩) zn cap,.int .i64 (a:Nat),.int .i64 ((a:Nat)+1)] w7 fun e w'=>e=.returned (.slice (some ⟨f,0,none⟩) (zn - 1) cap)∧FreeAt b w' f (zs.eraseIdx a)∧But (·=f) w7 w'):=hdel
          have HEL:Hid ((zs.eraseIdx a).length=zn - 1):=by unfold Hid;rw[List.length_eraseIdx_of_lt (by rw[ZL.out];exact ha),ZL.out]
          obtain⟨A7,m7,p7,rfl⟩:∃ A n cap,v7=.slice A n cap:=by obtain⟨A,cap,e⟩:=row_slice o7;exact⟨A,_,cap,e⟩
          have hwr:wrap64 ((a:Int)+1)=(a:Int)+1:=by unfold wrap64;omega
          clear o7 b7 h7 t0 t1 t2 t3 z0 z1 z2 z3 z4 hdel
          go_wp2_with fail
          refine HD.out.mono ?_
          rintro e w8 ⟨rfl,f8,b8⟩
          have S8:Hid (FindS b V B (l.take (k+1)) w8 (.slice A7 m7 p7) (.slice OA1 om ocap) (zs.eraseIdx a)):=by
            refine⟨fs++[(z,(p,Value.slice UA un ucap))],os,hst.out,row_but O7.out b8 (fun i hi e=>by have:=HFB.out;omega),?_,fun x hx=>?_,HRO.out⟩
            · rw[HOM.out]
              exact row_but OS7.out b8 (fun i hi e=>by have:=HFB.out;omega)
            · rcases List.mem_append.1 hx with hx | hx
              · exact HRA.out x hx
              · rw[List.mem_singleton] at hx;rw[hx];exact HRU.out
          have F8:=Lib.hid f8
          have BW8:Hid (But (·=f) w2 w8):=BW7.out.trans b8
          clear f8 b8
          go_wp2_with fail
          go_roundw
          case rel=>exact⟨k+1,zn - 1,_,_,zs.eraseIdx a,rfl,rfl,rfl,by go_num,by omega,by omega,HEL,S8,F8,BW8⟩
          case measure=>simp[intOf];omega
    · have hkn:Hid (l.take k=l):=List.take_of_length_le (by rw[HN.out];omega)
      have FS2:=FS.out
      rw[hkn.out] at FS2
      have HF2:Hid (FindS b V W.heap.size l wr fx ox zs):=FS2.weak (by have:=HFB.out;omega)
      obtain⟨fs,os,-,hfr,hor,-⟩:=FS2
      obtain⟨FA1,fcap,rfl⟩:=row_slice hfr
      obtain⟨OA1,ocap,rfl⟩:=row_slice hor
      clear hfr hor bw
      go_wp2_with fail
      go_ret2
      exact⟨⟨_,_,zs,rfl,HF2.out⟩,HBW.out⟩
end Go.Proofs.YtfbdnaclkfmiaaaGreatDoor
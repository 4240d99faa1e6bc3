import Derived.Test.YtbgaglcgennhiaaGreatDoorP36
import Derived.Test.YtbgaglcgennhiaaGreatDoorP30
import Derived.BigQuiet
section
namespace Go.Proofs.YtbgaglcgennhiaaGreatDoor
open Go.RowKit Go.Sort Tx Ct
theorem RowV.at {α:Type} {ai:α→List Value} {k:Nat} {w:World} {v:Value} {l:List α} (h:RowV ai k w.heap.size w v l):∃ A cap,v=.slice A l.length cap∧(0 < l.length→∃ b off,A=some ⟨b,off,none⟩∧∀ W,Below w.heap.size w W→∀ i p,l[i]?=some p→∀ c u,(ai p)[c]?=some u→W.cell? ⟨b,off+i*k+c,none⟩=some u):=by
 obtain⟨A,cap,hv,hc⟩:=h
 refine⟨A,cap,hv,fun h0=>?_⟩
 obtain⟨b,off,ha,hb,hcc⟩:=hc h0
 exact⟨b,off,ha,fun W hW i p hp c u hu=>by rw[hW.cell (p:=⟨b,off+i*k+c,none⟩) hb];exact hcc i p hp c u hu⟩
end Go.Proofs.YtbgaglcgennhiaaGreatDoor
end
section
namespace Go.Proofs.YtbgaglcgennhiaaGreatDoor
open Go.RowKit Go.Sort Tx Ct
def aY (u:aC):Nat:=5+u.name.length+u.pw.length+ax u.pend+be u.items
def bK (h:aK):Nat:=1+h.name.length+(h.users.map aY).sum
def bW (hs:List aK):Nat:=(hs.map bK).sum
theorem i8 {α:Type} {f:α→Nat} {l:List α} {k:Nat} {x:α} (h:l[k]?=some x):((l.take (k+1)).map f).sum=((l.take k).map f).sum+f x:=by
 rw[List.take_add_one,h]
 simp
theorem oz {α:Type} (f:α→Nat) (l:List α) (k:Nat):((l.take k).map f).sum≤(l.map f).sum:=by
 conv=>rhs;rw[← List.take_append_drop k l,List.map_append,List.sum_append]
 omega
theorem fX {α:Type} (f:α→Nat) {x:α}:∀ {l:List α},x∈l→f x≤(l.map f).sum
 | a::l,h=>by
   rw[List.map_cons,List.sum_cons];rcases List.mem_cons.1 h with rfl | h
   · omega
   · have:=fX f h;omega
theorem gl {α:Type} (f:α→Nat) (hf:∀ x,1≤f x):∀ l:List α,l.length≤(l.map f).sum
 | []=>Nat.zero_le _
 | a::l=>by
   have:=gl f hf l
   have:=hf a
   rw[List.map_cons,List.sum_cons,List.length_cons];omega
theorem cV (l:List (List UInt8)):l.length≤ax l:=gl (fun x:List UInt8=>1+x.length) (fun _=>by omega) l
theorem ep (l:List (aZ × bm)):l.length≤be l:=gl (fun p:aZ × bm=>bV p.1) (fun _=>by unfold bV;omega) l
theorem em (l:List aC):l.length≤(l.map aY).sum:=gl aY (fun _=>by unfold aY;omega) l
theorem i9 (l:List aK):l.length≤bW l:=gl bK (fun _=>by unfold bK;omega) l
theorem dC {l:List (List UInt8)} {t:List UInt8} (h:t∈l):t.length < ax l:=by
 have:1+t.length≤ax l:=fX (fun x:List UInt8=>1+x.length) h
 omega
theorem ew {l:List (aZ × bm)} {p:aZ × bm} (h:p∈l):bV p.1≤be l:=fX (fun p:aZ × bm=>bV p.1) h
theorem pF {l:List aK} {p:aK} (h:p∈l):bK p≤bW l:=fX bK h
set_option maxHeartbeats 8000000 in
set_option maxRecDepth 100000 in
theorem kO (v:Value) (hs:List aK) (w:World) (hR:ReadH w v hs) (hs2:bW hs≤100000000) :
 Calls Tryz.prog 8 #[.agg #[v]] w fun e w'=>e=.returned (.bool (decide (bW hs≤20000)))∧Below w.heap.size w w':=by
 have hl:hs.length≤100000000:=Nat.le_trans (i9 hs) hs2
 obtain⟨A,cap,rfl,hA⟩:=hR.1.at
 have HU:=Lib.hid hR.2
 obtain⟨n,hn⟩:∃ n,hs.length=n:=⟨_,rfl⟩
 have HN:=Lib.hid hn;rw[hn] at hA hl ⊢;have HA:=Lib.hid hA;have HSM:=Lib.hid hs2
 obtain⟨W1,hW1⟩:∃ W1,w.alloc (.cells #[.slice A n cap] 24)=W1:=⟨_,rfl⟩
 obtain⟨sb,hsb⟩:∃ bx,w.heap.size=bx:=⟨_,rfl⟩
 have KS:Hid (Bk W1 sb 24 #[.slice A n cap]):=by rw[← hW1,← hsb];exact Bk.new _ _ _
 have B1:Hid (Below w.heap.size w W1):=by rw[← hW1];exact(Below.refl _ _).alloc (Nat.le_refl _) _
 have HW1:=Lib.hid hW1;have HSB:=Lib.hid hsb;clear hR hA hn hs2 hW1 hsb;go_enter Tryz.func8,Tryz.ntmps8
 go_upto_region 1 with fail
 (try rw[HW1.out]);(try rw[HSB.out])
 go_wp2_with fail
 go_loopw [3,4,5,6,7] (fun nv iv kv uv mv wr=>∃ (u5 u6 u7:Value) (i s:Nat),nv=.int .i64 (s:Nat)∧iv=.int .i64 (i:Nat)∧kv=u5∧uv=u6∧mv=u7∧i≤n∧Hid (s=((hs.take i).map bK).sum)∧Hid (Below W1.heap.size W1 wr)) (fun _ iv _ _ _ _=>n - (intOf iv).toNat)
 case atStart=>exact⟨_,_,_,0,0,rfl,rfl,rfl,rfl,rfl,Nat.zero_le _,rfl,Below.refl _ _⟩
 case round =>
  obtain⟨u5,u6,u7,i,s,rfl,rfl,hu5,hu6,hu7,hi,HSI,BW⟩:=hrel
  have h5:=hu5.symm;have h6:=hu6.symm;have h7:=hu7.symm;clear hu5 hu6 hu7;subst h5 h6 h7;have BWW:Hid (Below w.heap.size w wr):=B1.out.trans (BW.out.mono B1.out.size);have cs0:wr.cell? ⟨sb,0,none⟩=some (.slice A n cap):=(KS.out.below BW.out KS.out.lt).cell 0
  by_cases hin:i < n
  · have hiz:(i:Int) < (n:Int):=by omega
    have hi00:(0:Int)≤(i:Int):=by omega
    obtain⟨hb,ho,rfl,hc⟩:=HA.out (by omega)
    obtain⟨h,hh⟩:∃ p,hs[i]?=some p:=⟨_,List.getElem?_eq_getElem (by rw[HN.out];exact hin)⟩
    have hmem:h∈hs:=List.mem_of_getElem? hh;have HC:=Lib.hid (fun W hW c u hu=>hc W hW i h hh c u hu)
    obtain⟨P,hP⟩:∃ P,ho+i*2=P:=⟨_,rfl⟩
    rw[hP] at HC;have hUr:=HU.out h hmem
    obtain⟨AU,cu,huv,hcU⟩:=hUr.1.at
    have HUI:=Lib.hid hUr.2;have htk:((hs.take (i+1)).map bK).sum=((hs.take i).map bK).sum+bK h:=i8 hh;have hle:=oz bK hs (i+1);have htot:(hs.map bK).sum≤100000000:=HSM.out;have hhh:bK h=1+h.name.length+(h.users.map aY).sum:=rfl;have hsi:=HSI.out
    obtain⟨t1,ht1⟩:∃ z,s+1=z:=⟨_,rfl⟩
    obtain⟨t2,ht2⟩:∃ z,t1+h.name.length=z:=⟨_,rfl⟩
    have HT2:Hid (t2+(h.users.map aY).sum=((hs.take (i+1)).map bK).sum):=by unfold Hid;omega
    have HT3:Hid (t2+(h.users.map aY).sum≤100000000):=by unfold Hid;omega
    have hJz:((aa h.name).size:Int)=(h.name.length:Int):=by rw[Lib.size_eq]
    have w1:IntKind.i64.wrap ((s:Int)+1)=(t1:Int):=by rw[IntKind.wrap_i64];omega
    have w2:IntKind.i64.wrap ((t1:Int)+((aa h.name).size:Int))=(t2:Int):=by rw[hJz,IntKind.wrap_i64];omega
    clear ht1 ht2 htk hle htot hhh hsi hJz;have eh:aA h=[.string (aa h.name),.slice AU h.users.length cu]:=by unfold aA;rw[huv]
    obtain⟨J,hJ⟩:∃ J,aa h.name=J:=⟨_,rfl⟩
    rw[hJ] at eh w2;rw[eh] at HC
    obtain⟨m,hm⟩:∃ m,h.users.length=m:=⟨_,rfl⟩
    have HM:=Lib.hid hm;have hml:m≤100000000:=by rw[← hm];have:=HT3.out;have:=em h.users;omega
    rw[hm] at HC hcU;have HCU:=Lib.hid hcU
    obtain⟨us,hus⟩:∃ us,h.users=us:=⟨_,rfl⟩
    rw[hus] at HM HCU HUI HT2 HT3;have p0:wr.cell? ⟨hb,P,none⟩=some (.string J):=HC.out wr BWW.out 0 _ rfl;have p1:wr.cell? ⟨hb,P+1,none⟩=some (.slice AU m cu):=HC.out wr BWW.out 1 _ rfl;clear hc hh hmem huv hcU eh hJ hm hUr hus
    go_wp2_with fail
    clear w1 w2
    go_loopw [3,5,6,7] (fun nv kv uv mv wr2=>∃ (u6 u7:Value) (k s:Nat),nv=.int .i64 (s:Nat)∧kv=.int .i64 (k:Nat)∧uv=u6∧mv=u7∧k≤m∧Hid (s=t2+((us.take k).map aY).sum)∧Hid (Below W1.heap.size W1 wr2)) (fun _ kv _ _ _=>m - (intOf kv).toNat)
    case atStart=>exact⟨_,_,0,t2,rfl,rfl,rfl,rfl,Nat.zero_le _,rfl,BW⟩
    case round =>
     clear p0 p1 BW BWW cs0 HSI
     obtain⟨u6,u7,k,s,rfl,rfl,hu6,hu7,hk,HSK,BW⟩:=hrel
     have h6:=hu6.symm;have h7:=hu7.symm;clear hu6 hu7;subst h6 h7;have BWW:Hid (Below w.heap.size w wr):=B1.out.trans (BW.out.mono B1.out.size);have cs0:wr.cell? ⟨sb,0,none⟩=some (.slice (some ⟨hb,ho,none⟩) n cap):=(KS.out.below BW.out KS.out.lt).cell 0;have p1:wr.cell? ⟨hb,P+1,none⟩=some (.slice AU m cu):=HC.out wr BWW.out 1 _ rfl
     by_cases hkm:k < m
     · have hkz:(k:Int) < (m:Int):=by omega
       have hk00:(0:Int)≤(k:Int):=by omega
       obtain⟨ub,uo,rfl,hcu⟩:=HCU.out (by omega)
       obtain⟨u,hu⟩:∃ p,us[k]?=some p:=⟨_,List.getElem?_eq_getElem (by rw[HM.out];exact hkm)⟩
       have hmu:u∈us:=List.mem_of_getElem? hu;have HCX:=Lib.hid (fun W hW c q hq=>hcu W hW k u hu c q hq)
       obtain⟨Q,hQ⟩:∃ P,uo+k*4=P:=⟨_,rfl⟩
       rw[hQ] at HCX;have hin2:=HUI.out u hmu;have htk:((us.take (k+1)).map aY).sum=((us.take k).map aY).sum+aY u:=i8 hu;have hle:=oz aY us (k+1);have htot:=HT3.out;have hhu:aY u=5+u.name.length+u.pw.length+ax u.pend+be u.items:=rfl;have hsk:=HSK.out
       obtain⟨r1,hr1⟩:∃ z,s+5=z:=⟨_,rfl⟩
       obtain⟨r2,hr2⟩:∃ z,r1+u.name.length=z:=⟨_,rfl⟩
       obtain⟨r3,hr3⟩:∃ z,r2+u.pw.length=z:=⟨_,rfl⟩
       obtain⟨r4,hr4⟩:∃ z,r3+ax u.pend=z:=⟨_,rfl⟩
       have HR4:Hid (r4+be u.items=t2+((us.take (k+1)).map aY).sum):=by unfold Hid;omega
       have HR5:Hid (r4+be u.items≤100000000):=by unfold Hid;omega
       have hpt:ax u.pend≤100000000:=by omega
       have hNz:((aa u.name).size:Int)=(u.name.length:Int):=by rw[Lib.size_eq]
       have hPz:((aa u.pw).size:Int)=(u.pw.length:Int):=by rw[Lib.size_eq]
       have ew1:IntKind.i64.wrap ((s:Int)+5)=(r1:Int):=by rw[IntKind.wrap_i64];omega
       have ew2:IntKind.i64.wrap ((r1:Int)+((aa u.name).size:Int))=(r2:Int):=by rw[hNz,IntKind.wrap_i64];omega
       have ew3:IntKind.i64.wrap ((r2:Int)+((aa u.pw).size:Int))=(r3:Int):=by rw[hPz,IntKind.wrap_i64];omega
       have ew4:IntKind.i64.wrap ((r3:Int)+((ax u.pend:Nat):Int))=(r4:Int):=by rw[IntKind.wrap_i64];omega
       clear hr1 hr2 hr3 hr4 htk hle htot hhu hsk hNz hPz;have HTX:Hid (∀ W,Below w.heap.size w W→Calls Tryz.prog 10 #[sl u.pv] W fun e w'=>e=.returned (.int .i64 (ax u.pend:Nat))∧Below W.heap.size W w'):=fun W hW =>
        (fN (sl u.pv) u.pend W (hin2.2.upon hW) (by have:=cV u.pend;omega) (by omega)).mono fun _ _ ⟨he,hw⟩=>⟨he,by rw[hw];exact Below.refl _ _⟩
       obtain⟨IA,ic,hiv,hcI⟩:=hin2.1.row.at
       have HGT:Hid (∀ p∈u.items,∀ W,Below w.heap.size w W→Calls Tryz.prog 10 #[sl p.2] W fun e w'=>e=.returned (.int .i64 (ax p.1.groups:Nat))∧Below W.heap.size W w'):=fun p hp W hW=>by
        obtain⟨_,_,_,_,hT⟩:=hin2.1
        have h1:=ew hp;have h2:=HR5.out;have h3:bV p.1=5+p.1.jid.length+p.1.name.length+ax p.1.groups:=rfl
        exact(fN (sl p.2) p.1.groups W ((hT p hp).upon hW) (by have:=cV p.1.groups;omega) (by omega)).mono fun _ _ ⟨he,hw⟩=>⟨he,by rw[hw];exact Below.refl _ _⟩
       have hil:u.items.length≤100000000:=by have:=HR5.out;have:=ep u.items;omega
       have eu:af u=[.string (aa u.name),.string (aa u.pw),.slice IA u.items.length ic,.slice u.pv.1 u.pv.2.1 u.pv.2.2]:=by unfold af;rw[hiv];rfl
       have epv:sl u.pv=.slice u.pv.1 u.pv.2.1 u.pv.2.2:=rfl;rw[epv] at HTX;rw[eu] at HCX
       obtain⟨X,hX⟩:∃ X,aa u.name=X:=⟨_,rfl⟩
       obtain⟨M,hM⟩:∃ X,aa u.pw=X:=⟨_,rfl⟩
       obtain⟨PA,hPA⟩:∃ A,u.pv.1=A:=⟨_,rfl⟩
       obtain⟨pn,hpn⟩:∃ A,u.pv.2.1=A:=⟨_,rfl⟩
       obtain⟨pc,hpc⟩:∃ A,u.pv.2.2=A:=⟨_,rfl⟩
       obtain⟨tx,htx⟩:∃ A,ax u.pend=A:=⟨_,rfl⟩
       obtain⟨len,hlen⟩:∃ A,u.items.length=A:=⟨_,rfl⟩
       have HLEN:=Lib.hid hlen;rw[hX,hM,hPA,hpn,hpc,hlen] at HCX;rw[hPA,hpn,hpc,htx] at HTX;rw[hX] at ew2;rw[hM] at ew3;rw[htx] at ew4;rw[hlen] at hil hcI;have HCI:=Lib.hid hcI
       obtain⟨is,his⟩:∃ A,u.items=A:=⟨_,rfl⟩
       rw[his] at HLEN HCI HGT HR4 HR5;have x0:wr.cell? ⟨ub,Q,none⟩=some (.string X):=HCX.out wr BWW.out 0 _ rfl;have x1:wr.cell? ⟨ub,Q+1,none⟩=some (.string M):=HCX.out wr BWW.out 1 _ rfl;have x2:wr.cell? ⟨ub,Q+2,none⟩=some (.slice IA len ic):=HCX.out wr BWW.out 2 _ rfl;have x3:wr.cell? ⟨ub,Q+3,none⟩=some (.slice PA pn pc):=HCX.out wr BWW.out 3 _ rfl
       obtain⟨Wa,hWa⟩:∃ W,wr.alloc (.cells #[.string ⟨#[]⟩,.string ⟨#[]⟩,.slice none 0 0,.slice none 0 0] 28)=W:=⟨_,rfl⟩
       obtain⟨uc,huc⟩:∃ b,wr.heap.size=b:=⟨_,rfl⟩
       have KA:Hid (Bk Wa uc 28 #[.string ⟨#[]⟩,.string ⟨#[]⟩,.slice none 0 0,.slice none 0 0]):=by rw[← hWa,← huc];exact Bk.new _ _ _
       have BA:Below wr.heap.size wr Wa:=by rw[← hWa];exact(Below.refl _ _).alloc (Nat.le_refl _) _
       have HUC:Hid (wr.heap.size≤uc):=by rw[← huc];exact Nat.le_refl _
       have r0:Wa.cell? ⟨uc,0,none⟩=some (.string ⟨#[]⟩):=KA.out.cell 0;have g0:Wa.frozen? ⟨uc,0,none⟩=false:=KA.out.free 0;have r1:Wa.cell? ⟨uc,1,none⟩=some (.string ⟨#[]⟩):=KA.out.cell 1;have g1:Wa.frozen? ⟨uc,1,none⟩=false:=KA.out.free 1;have r2:Wa.cell? ⟨uc,2,none⟩=some (.slice none 0 0):=KA.out.cell 2;have g2:Wa.frozen? ⟨uc,2,none⟩=false:=KA.out.free 2;have r3:Wa.cell? ⟨uc,3,none⟩=some (.slice none 0 0):=KA.out.cell 3;have g3:Wa.frozen? ⟨uc,3,none⟩=false:=KA.out.free 3;have KB:=Lib.hid (aF KA.out (.string X) (.string M) (.slice IA len ic) (.slice PA pn pc));have BB0:=Lib.hid (aj BA HUC.out (.string X) (.string M) (.slice IA len ic) (.slice PA pn pc))
       obtain⟨Wb,hWb⟩:∃ z,bj Wa uc (.string X) (.string M) (.slice IA len ic) (.slice PA pn pc)=z:=⟨_,rfl⟩
       rw[hWb] at KB BB0;have BB:Hid (Below W1.heap.size W1 Wb):=BW.out.trans (BB0.out.mono BW.out.size);have BBW:Hid (Below w.heap.size w Wb):=B1.out.trans (BB.out.mono B1.out.size);clear hcu hu hmu hin2 hiv hcI eu epv hX hM hPA hpn hpc htx hlen his BA hpt HSK
       go_upto_region 10 with fail
       (try rw[hWb]);clear hWa hWb huc r0 g0 r1 g1 r2 g2 r3 g3 x0 x1 x2 x3 p1 cs0;have e0:∀ p:Sy.Bel Wb,p.v.cell? ⟨uc,0,none⟩=some (.string X):=fun p=>(KB.out.below p.h KB.out.lt).cell 0
       have e1:∀ p:Sy.Bel Wb,p.v.cell? ⟨uc,1,none⟩=some (.string M):=fun p=>(KB.out.below p.h KB.out.lt).cell 1
       have e3:∀ p:Sy.Bel Wb,p.v.cell? ⟨uc,3,none⟩=some (.slice PA pn pc):=fun p=>(KB.out.below p.h KB.out.lt).cell 3
       have ht:∀ p:Sy.Bel Wb,Calls Tryz.prog 10 #[.slice PA pn pc] p.v fun e w'=>e=.returned (.int .i64 (tx:Nat))∧Below p.v.heap.size p.v w':=fun p=>HTX.out p.v (BBW.out.trans (p.h.mono BBW.out.size))
       refine Sy.wp_region_quiet_bel (by kernel_rfl) (by kernel_rfl) ?_
       repeat (go_big_quiet_step ((go_at_call 10;exact Sy.Calls.bel_of (ht _))))
       refine wpQuiet_nil ?_;intro w2 hw';have hb2:Below Wb.heap.size Wb w2:=by obtain⟨v,rfl⟩:=hw';exact v.h
       have B2:Hid (Below W1.heap.size W1 w2):=BB.out.trans (hb2.mono BB.out.size);have K2:=Lib.hid (KB.out.below hb2 KB.out.lt);clear hw' hb2 e0 e1 e3 ht BW BWW ew1 ew2 ew3 ew4
       go_wp2_with fail
       go_loopw [3,7] (fun nv mv wr3=>∃ (j s:Nat),nv=.int .i64 (s:Nat)∧mv=.int .i64 (j:Nat)∧j≤len∧Hid (s=r4+be (is.take j))∧Hid (Below w2.heap.size w2 wr3)) (fun _ mv _=>len - (intOf mv).toNat)
       case atStart=>exact⟨0,r4,rfl,rfl,Nat.zero_le _,rfl,Below.refl _ _⟩
       case round =>
        obtain⟨j,s,rfl,rfl,hj,HSJ,BW⟩:=hrel
        have cu2:wr.cell? ⟨uc,2,none⟩=some (.slice IA len ic):=(K2.out.below BW.out K2.out.lt).cell 2
        by_cases hjl:j < len
        · have hjz:(j:Int) < (len:Int):=by omega
          have hjz0:(0:Int)≤(j:Int):=by omega
          obtain⟨b,off,rfl,hcc⟩:=HCI.out (by omega)
          obtain⟨p,hp⟩:∃ p,is[j]?=some p:=⟨_,List.getElem?_eq_getElem (by rw[HLEN.out];exact hjl)⟩
          have hpm:p∈is:=List.mem_of_getElem? hp;have BWW:Hid (∀ W,Below wr.heap.size wr W→Below w.heap.size w W):=fun W hW=>B1.out.trans ((B2.out.trans ((BW.out.trans (hW.mono BW.out.size)).mono B2.out.size)).mono B1.out.size)
          have hci:=fun W hW c q hq=>hcc W hW j p hp c q hq
          obtain⟨R,hR⟩:∃ P,off+j*6=P:=⟨_,rfl⟩
          rw[hR] at hci;have ht:=fun v:Sy.Bel wr=>HGT.out p hpm v.v (BWW.out v.v v.h)
          have htk:be (is.take (j+1))=be (is.take j)+bV p.1:=i8 (f:=fun p:aZ × bm=>bV p.1) hp;have hle:be (is.take (j+1))≤be is:=oz (fun p:aZ × bm=>bV p.1) is (j+1);clear hcc hp hpm
          obtain⟨x,A0,n0,cap0⟩:=p
          have hxx:bV (x,A0,n0,cap0).1=bV x:=rfl;have hsum:=HR5.out;have hhx:bV x=5+x.jid.length+x.name.length+ax x.groups:=rfl;have hs0:=HSJ.out
          obtain⟨s1,hs1⟩:∃ z,s+5=z:=⟨_,rfl⟩
          obtain⟨s2,hs2⟩:∃ z,s1+x.jid.length=z:=⟨_,rfl⟩
          obtain⟨s3,hs3⟩:∃ z,s2+x.name.length=z:=⟨_,rfl⟩
          obtain⟨s4,hs4⟩:∃ z,s3+ax x.groups=z:=⟨_,rfl⟩
          have HN4:Hid (s4=r4+be (is.take (j+1))):=by unfold Hid;omega
          have hJz:((aa x.jid).size:Int)=(x.jid.length:Int):=by rw[Lib.size_eq]
          have hNz:((aa x.name).size:Int)=(x.name.length:Int):=by rw[Lib.size_eq]
          have w1:IntKind.i64.wrap ((s:Int)+5)=(s1:Int):=by rw[IntKind.wrap_i64];omega
          have w2':IntKind.i64.wrap ((s1:Int)+((aa x.jid).size:Int))=(s2:Int):=by rw[hJz,IntKind.wrap_i64];omega
          have w3:IntKind.i64.wrap ((s2:Int)+((aa x.name).size:Int))=(s3:Int):=by rw[hNz,IntKind.wrap_i64];omega
          have w4:IntKind.i64.wrap ((s3:Int)+((ax x.groups:Nat):Int))=(s4:Int):=by rw[IntKind.wrap_i64];omega
          clear htk hle hxx hsum hhx hs0 hs1 hs2 hs3 hs4 hJz hNz;have q0:∀ v:Sy.Bel wr,v.v.cell? ⟨b,R,none⟩=some (.string (aa x.jid)):=fun v=>hci v.v (BWW.out v.v v.h) 0 _ rfl
          have q1:∀ v:Sy.Bel wr,v.v.cell? ⟨b,R+1,none⟩=some (.string (aa x.name)):=fun v=>hci v.v (BWW.out v.v v.h) 1 _ rfl
          have q2:∀ v:Sy.Bel wr,v.v.cell? ⟨b,R+2,none⟩=some (.slice A0 n0 cap0):=fun v=>hci v.v (BWW.out v.v v.h) 2 _ rfl
          have qu:∀ v:Sy.Bel wr,v.v.cell? ⟨uc,2,none⟩=some (.slice (some ⟨b,off,none⟩) len ic):=fun v=>(K2.out.below (BW.out.trans (v.h.mono BW.out.size)) K2.out.lt).cell 2
          have htx:∀ v:Sy.Bel wr,Calls Tryz.prog 10 #[.slice A0 n0 cap0] v.v fun e w'=>e=.returned (.int .i64 (ax x.groups:Nat))∧Below v.v.heap.size v.v w':=ht
          obtain⟨T,hT⟩:∃ T,ax x.groups=T:=⟨_,rfl⟩
          obtain⟨J2,hJ2⟩:∃ J,aa x.jid=J:=⟨_,rfl⟩
          obtain⟨N2,hN2⟩:∃ J,aa x.name=J:=⟨_,rfl⟩
          rw[hJ2] at q0 w2';rw[hN2] at q1 w3;rw[hT] at htx w4;clear hT hJ2 hN2 hci ht
          go_wp2_with fail
          refine Sy.wp_region_quiet_bel (by kernel_rfl) (by kernel_rfl) ?_
          repeat (go_big_quiet_step ((go_at_call 10;exact Sy.Calls.bel_of (htx _))))
          refine wpQuiet_nil ?_;intro w5 hw';have hb5:Below wr.heap.size wr w5:=by obtain⟨v,rfl⟩:=hw';exact v.h
          have B5:Hid (Below w2.heap.size w2 w5):=BW.out.trans (hb5.mono BW.out.size);clear hw' hb5 q0 q1 q2 qu htx hR w1 w2' w3 w4
          go_wp2_with fail
          go_roundw
          case rel=>exact⟨j+1,s4,rfl,by go_num,by omega,HN4,B5⟩
          case measure=>simp[intOf];omega
        · have hjz:¬ (j:Int) < (len:Int):=by omega
          have B6:Hid (Below W1.heap.size W1 wr):=B2.out.trans (BW.out.mono B2.out.size);have HK:Hid (s=t2+((us.take (k+1)).map aY).sum):=by
           have h1:=HSJ.out;rw[List.take_of_length_le (by rw[HLEN.out];omega)] at h1;have h2:=HR4.out;unfold Hid;omega
          go_wp2_with fail
          go_roundw
          case rel=>exact⟨_,_,k+1,s,rfl,by go_num,rfl,rfl,by omega,HK,B6⟩
          case measure=>simp[intOf];omega
     · have hkz:¬ (k:Int) < (m:Int):=by omega
       have HI:Hid (s=((hs.take (i+1)).map bK).sum):=by
        have h1:=HSK.out;rw[List.take_of_length_le (by rw[HM.out];omega)] at h1;have h2:=HT2.out;unfold Hid;omega
       go_wp2_with fail
       go_roundw
       case rel=>exact⟨_,_,_,i+1,s,rfl,by go_num,rfl,rfl,rfl,by omega,HI,BW⟩
       case measure=>simp[intOf];omega
  · have hiz:¬ (i:Int) < (n:Int):=by omega
    have hsx:s=bW hs:=by
     have h1:=HSI.out;rw[List.take_of_length_le (by rw[HN.out];omega)] at h1;exact h1
    have hdx:decide ((s:Int)≤20000)=decide (bW hs≤20000):=by rw[← hsx];exact decide_eq_decide.2 (by omega)
    clear hsx;have HDX:=Lib.hid hdx;clear hdx
    go_wp2_with fail
    go_ret
    exact⟨by rw[← HDX.out];rfl,BWW.out⟩
end Go.Proofs.YtbgaglcgennhiaaGreatDoor
end

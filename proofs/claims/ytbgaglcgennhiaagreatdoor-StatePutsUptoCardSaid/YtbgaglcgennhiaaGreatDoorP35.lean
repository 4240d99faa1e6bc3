import Derived.Test.YtbgaglcgennhiaaGreatDoorP31
import Derived.Test.YtbgaglcgennhiaaGreatDoorP27
import Derived.Test.YtbgaglcgennhiaaGreatDoorP18
import Derived.Test.YtbgaglcgennhiaaGreatDoorP34
section
namespace Go.Proofs.YtbgaglcgennhiaaGreatDoor
open Go.RowKit Tx Ct
def de (h:aK) (s:List UInt8) (u:aC):Prop:=u.name++64::h.name=s
structure FirstU (hs:List aK) (s:List UInt8) (i k:Nat) (h:aK) (u:aC):Prop where
 host:hs[i]?=some h
 user:h.users[k]?=some u
 is:de h s u
 ahead:∀ i' h',i' < i→hs[i']?=some h'→∀ u'∈h'.users,¬ de h' s u'
 before:∀ k' u',k' < k→h.users[k']?=some u'→¬ de h s u'
def NoU (hs:List aK) (s:List UInt8):Prop:=∀ h∈hs,∀ u∈h.users,¬ de h s u
theorem rZ {s p:List UInt8} (h:Lib.hasSuffix s p=true):Lib.trimSuffix s p++p=s:=by
 unfold Lib.trimSuffix;rw[if_pos h];unfold Lib.hasSuffix at h
 obtain⟨t,rfl⟩:=List.isSuffixOf_iff_suffix.1 h
 simp
theorem rC {s p:List UInt8} (h:Lib.hasSuffix s p=false) (n:List UInt8):n++p≠s:=fun e=>by
 unfold Lib.hasSuffix at h
 have:p.isSuffixOf s=true:=List.isSuffixOf_iff_suffix.2 ⟨n,e⟩
 rw[this] at h;cases h
set_option maxHeartbeats 1000000 in
theorem uS (x:aC) (j:List UInt8) (jb:Nat) (w:World) (hj:w.cell? ⟨jb,0,none⟩=some (.string (aa j))) (hjb:jb < w.heap.size) :
 Calls Tryz.prog 58 #[.agg (af x).toArray,.pointer (some ⟨jb,0,none⟩)] w fun e w'=>e=.returned (.bool (decide (x.name=j)))∧Below w.heap.size w w':=by
 obtain⟨xj,xm,xis,⟨xA,xn,xc⟩,xps,⟨xD,xe,xf⟩⟩:=x
 have hag:(Value.agg (af ⟨xj,xm,xis,⟨xA,xn,xc⟩,xps,⟨xD,xe,xf⟩⟩).toArray)=.agg #[.string (aa xj),.string (aa xm),.slice xA xn xc,.slice xD xe xf]:=rfl;rw[hag];clear hag;dsimp only;have hE:=cP xj j
 obtain⟨r,hr⟩:∃ r,decide (xj=j)=r:=⟨_,rfl⟩
 rw[hr] at hE ⊢;clear hr
 obtain⟨J,hJ⟩:∃ J,aa xj=J:=⟨_,rfl⟩
 obtain⟨Y,hY⟩:∃ J,aa j=J:=⟨_,rfl⟩
 obtain⟨N,hN⟩:∃ J,aa xm=J:=⟨_,rfl⟩
 rw[hJ,hY] at hE;rw[hY] at hj;rw[hJ,hN];clear hJ hY hN
 obtain⟨W1,hW1⟩:∃ W1,w.alloc (.cells #[.string J,.string N,.slice xA xn xc,.slice xD xe xf] 28)=W1:=⟨_,rfl⟩
 obtain⟨bx,hbx⟩:∃ bx,w.heap.size=bx:=⟨_,rfl⟩
 have k1:Bk W1 bx 28 #[.string J,.string N,.slice xA xn xc,.slice xD xe xf]:=by rw[← hW1,← hbx];exact Bk.new _ _ _
 have b1:Below w.heap.size w W1:=by rw[← hW1];exact(Below.refl _ _).alloc (Nat.le_refl _) _
 have c0:W1.cell? ⟨bx,0,none⟩=some (.string J):=k1.cell 0;have cj:W1.cell? ⟨jb,0,none⟩=some (.string Y):=by rw[b1.cell (p:=⟨jb,0,none⟩) hjb];exact hj
 have HW1:=Lib.hid hW1;have HBX:=Lib.hid hbx;have B1:=Lib.hid b1;clear hW1 hbx k1 b1 hj hjb;go_enter Tryz.func58,Tryz.ntmps58
 go_upto_region 1 with fail
 (try rw[HW1.out]);(try rw[HBX.out])
 go_wp2_with fail
 go_ret
 exact⟨rfl,B1.out⟩
set_option maxHeartbeats 400000 in
theorem nc (A:Option Addr) (cap:Nat) (fv:Value) (w:World):Calls Tryz.prog 57 #[.slice A 0 cap,fv] w fun e w'=>e=.returned (.int .i64 (-1))∧w'=w:=by
 go_enter Tryz.func57,Tryz.ntmps57
 go_wp2_with fail
 refine wp_loop_rounds 1 ?_;rw[rounds_succ]
 go_wp2_with fail
 go_ret
 exact⟨rfl,rfl⟩
def wI (l:List aC) (j:List UInt8) (z:Int):Prop:=(z=-1∧∀ u∈l,u.name≠j)∨∃ (k:Nat) (u:aC),z=k∧l[k]?=some u∧u.name=j∧∀ k' u',k' < k→l[k']?=some u'→u'.name≠j
theorem oX (v:Value) (l:List aC) (j:List UInt8) (jb:Nat) (w:World) (hR:RowV af 4 w.heap.size w v l) (hl:l.length≤1000000) (hj:Bk w jb 9 #[.string (aa j)]) :
 Calls Tryz.prog 57 #[v,.func (.func 58) #[] #[.pointer (some ⟨jb,0,none⟩)]] w fun e w'=>∃ z,wI l j z∧e=.returned (.int .i64 z)∧Below w.heap.size w w':=by
 obtain⟨A,cap,rfl,hA⟩:=hR
 by_cases h0:0 < l.length
 · obtain⟨b,off,rfl,hb,hc⟩:=hA h0
   have hI:=AnyQ.slices_IndexFunc Tryz.idxUser 4 Tryz.isAgg28 Tryz.sizeOf28 af (fun _=>rfl) (fun u=>decide (u.name=j)) 58 #[.pointer (some ⟨jb,0,none⟩)] (Go.Proofs.enters_of Tryz.func58 (by kernel_rfl) rfl) b off l.length cap l w
    (fun W p hb2=>(uS p j jb W ((hj.below hb2 hj.lt).cell 0) (Nat.lt_of_lt_of_le hj.lt hb2.size)).mono fun _ _ ⟨he,hw⟩=>⟨he,hb2.trans (hw.mono hb2.size)⟩) (Nat.le_refl _) (by omega) hb
    (fun i hi c u hu=>hc i _ (by rw[getElem!_pos l i hi];exact List.getElem?_eq_getElem hi) c u hu)
   rw[List.take_length] at hI;refine hI.mono ?_;rintro e w' ⟨rfl,hb'⟩
   refine⟨_,?_,rfl,hb'⟩
   have hidx:Lib.idxBy (fun (_:aC) (u:aC)=>decide (u.name=j)) l default=Lib.idxByFrom (fun (_:aC) (u:aC)=>decide (u.name=j)) default l 0:=rfl;rw[hidx];rcases idxByFrom_spec (fun (_:aC) (u:aC)=>decide (u.name=j)) default l 0 with ⟨hm,hno⟩ | ⟨k,hk,hm,hyes,hbefore⟩
   · refine .inl ⟨hm,fun u hu=>?_⟩
     obtain⟨i,hi,rfl⟩:=List.getElem_of_mem hu
     have:=hno i hi
     rw[getElem!_pos l i hi] at this;simpa using this
   · refine .inr ⟨k,l[k],by rw[hm];omega,List.getElem?_eq_getElem hk,?_,fun k' u' hk' hu'=>?_⟩
     · rw[getElem!_pos l k hk] at hyes
       simpa using hyes
     · have h1:=hbefore k' hk'
       have h2:=(List.getElem?_eq_some_iff.1 hu').1;rw[getElem!_pos l k' h2] at h1;have h3:l[k']=u':=(List.getElem?_eq_some_iff.1 hu').2;rw[h3] at h1;simpa using h1
 · obtain rfl:l=[]:=List.length_eq_zero_iff.1 (by omega)
   refine(nc A cap _ w).mono ?_
   rintro e w' ⟨rfl,rfl⟩
   exact⟨-1,.inl ⟨rfl,fun u hu=>absurd hu (by simp)⟩,rfl,Below.refl _ _⟩
def AtV (hs:List aK) (s:List UInt8) (w:World) (e:Ending) (w':World):Prop :=
 Below w.heap.size w w'∧((NoU hs s∧e=.returned (.pointer none)) ∨
  ∃ i k h u b off n c,FirstU hs s i k h u∧h.uv=(some ⟨b,off,none⟩,n,c)∧e=.returned (.pointer (some ⟨b,off+k*4,none⟩)))
set_option maxHeartbeats 8000000 in
set_option maxRecDepth 100000 in
theorem qb (v:Value) (hs:List aK) (s:List UInt8) (w:World) (hR:ReadH w v hs) (hl:hs.length≤1000000) (hu:∀ h∈hs,h.users.length≤1000000∧h.name.length≤100000000) (hsl:s.length≤1000000000) :
 Calls Tryz.prog 31 #[.agg #[v],.string (aa s)] w fun e w'=>AtV hs s w e w':=by
 obtain⟨⟨A,cap,rfl,hA⟩,hU⟩:=hR
 obtain⟨n,hn⟩:∃ n,hs.length=n:=⟨_,rfl⟩
 have HN:=Lib.hid hn;have HA:Hid (0 < n→∃ b off,A=some ⟨b,off,none⟩∧∀ W,Below w.heap.size w W→∀ i p,hs[i]?=some p→∀ c u,(aA p)[c]?=some u→W.cell? ⟨b,off+i*2+c,none⟩=some u):=fun h0=>by
  obtain⟨b,off,ha,hb,hc⟩:=hA (by omega)
  exact⟨b,off,ha,fun W hW i p hp c u hu=>by rw[hW.cell (p:=⟨b,off+i*2+c,none⟩) hb];exact hc i p hp c u hu⟩
 have HU:Hid (∀ W,Below w.heap.size w W→∀ h∈hs,ReadU W (sl h.uv) h.users∧h.users.length≤1000000∧h.name.length≤100000000):=fun W hW h hh=>⟨(hU h hh).upon hW,hu h hh⟩
 rw[hn] at hl ⊢;have hs1:(aa s).size=s.length:=by rw[Lib.size_eq]
 have HCS:Hid (∀ (p:ByteArray) (W:World),Calls Tryz.prog 56 #[.string (aa s),.string p] W fun e w'=>e=.returned (.tuple #[.string ⟨(Lib.trimSuffix s p.data.toList).toArray⟩,.bool (Lib.hasSuffix s p.data.toList)])∧w'=W):=fun p W=>Tryz.strings_CutSuffix (aa s) p W (by omega)
 obtain⟨S,hS⟩:∃ S,aa s=S:=⟨_,rfl⟩
 rw[hS] at HCS ⊢
 obtain⟨W1,hW1⟩:∃ W1,w.alloc (.cells #[.slice A n cap] 24)=W1:=⟨_,rfl⟩
 obtain⟨sb,hsb⟩:∃ b,w.heap.size=b:=⟨_,rfl⟩
 have k1:Bk W1 sb 24 #[.slice A n cap]:=by rw[← hW1,← hsb];exact Bk.new _ _ _
 have B1:Hid (Below w.heap.size w W1):=by rw[← hW1];exact(Below.refl _ _).alloc (Nat.le_refl _) _
 have q0:W1.cell? ⟨sb,0,none⟩=some (.slice A n cap):=k1.cell 0;have HW1:=Lib.hid hW1;have HSB:=Lib.hid hsb;clear hA hU hu hn hS hs1 hsl hW1 hsb k1;go_enter Tryz.func31,Tryz.ntmps31
 go_upto_region 1 with fail
 (try rw[HW1.out]);(try rw[HSB.out])
 go_wp2_with fail
 go_loopw [6,7,8,9,13] (fun a6 a7 a8 a9 iv wr=>∃ (u6 u7 u8 u9:Value) (i:Nat),a6=u6∧a7=u7∧a8=u8∧a9=u9∧iv=.int .i64 (i:Nat)∧i≤n∧Hid (∀ i' h',i' < i→hs[i']?=some h'→∀ u'∈h'.users,¬ de h' s u')∧Hid (Below w.heap.size w wr)) (fun _ _ _ _ iv _=>n - (intOf iv).toNat)
 case atStart=>exact⟨_,_,_,_,0,rfl,rfl,rfl,rfl,rfl,Nat.zero_le _,fun i' h' hi=>absurd hi (Nat.not_lt_zero _),B1.out⟩
 case round =>
  clear B1 q0
  obtain⟨u6,u7,u8,u9,i,hu6,hu7,hu8,hu9,rfl,hi,HNO,BW⟩:=hrel
  have hu62:=hu6.symm;have hu72:=hu7.symm;have hu82:=hu8.symm;have hu92:=hu9.symm;clear hu6 hu7 hu8 hu9;subst hu62 hu72 hu82 hu92
  by_cases hin:i < n
  · have hiz:(i:Int) < (n:Int):=by omega
    have hi00:(0:Int)≤(i:Int):=by omega
    obtain⟨b,off,rfl,hc⟩:=HA.out (by omega)
    obtain⟨h,hh⟩:∃ p,hs[i]?=some p:=⟨_,List.getElem?_eq_getElem (by rw[HN.out];exact hin)⟩
    have HH:=Lib.hid hh;have hmem:h∈hs:=List.mem_of_getElem? hh;have hcx:=fun W hW c u hu=>hc W hW i h hh c u hu
    obtain⟨P,hP⟩:∃ P,off+i*2=P:=⟨_,rfl⟩
    rw[hP] at hcx;have HUS:=fun W hW=>HU.out W hW h hmem
    have HNX:Hid ((∀ u'∈h.users,¬ de h s u')→∀ i' h',i' < i+1→hs[i']?=some h'→∀ u'∈h'.users,¬ de h' s u'):=fun hno i' h' hi' hh'=>by
     rcases Nat.lt_or_ge i' i with hl | hl
     · exact HNO.out i' h' hl hh'
     · obtain rfl:i'=i:=by omega
       rw[HH.out] at hh';obtain rfl:=Option.some.inj hh';exact hno
    have HFI:Hid (∀ k u,h.users[k]?=some u→de h s u→(∀ k' u',k' < k→h.users[k']?=some u'→¬ de h s u')→FirstU hs s i k h u):=fun k u h1 h2 h3=>⟨HH.out,h1,h2,HNO.out,h3⟩
    clear hc hh hmem
    obtain⟨hj,hus,⟨hA,hn,hcp⟩⟩:=h
    obtain⟨J,hJ⟩:∃ J,aa hj=J:=⟨_,rfl⟩
    have ex:aA (⟨hj,hus,(hA,hn,hcp)⟩:aK)=[.string J,.slice hA hn hcp]:=by rw[← hJ];rfl
    rw[ex] at hcx;clear ex;have p0:wr.cell? ⟨b,P,none⟩=some (.string J):=hcx wr BW.out 0 _ rfl;have p1:wr.cell? ⟨b,P+1,none⟩=some (.slice hA hn hcp):=hcx wr BW.out 1 _ rfl
    obtain⟨W3,hW3⟩:∃ W,wr.alloc (.cells #[.string ⟨#[]⟩,.slice none 0 0] 47)=W:=⟨_,rfl⟩
    obtain⟨p,hp⟩:∃ b,wr.heap.size=b:=⟨_,rfl⟩
    have K3:Hid (Bk W3 p 47 #[.string ⟨#[]⟩,.slice none 0 0]):=by rw[← hW3,← hp];exact Bk.new _ _ _
    have b3:Below wr.heap.size wr W3:=by rw[← hW3];exact(Below.refl _ _).alloc (Nat.le_refl _) _
    have HPW:Hid (wr.heap.size≤p):=by rw[← hp];exact Nat.le_refl _
    have z0:W3.cell? ⟨p,0,none⟩=some (.string ⟨#[]⟩):=K3.out.cell 0;have zf0:W3.frozen? ⟨p,0,none⟩=false:=K3.out.free 0;have z1:W3.cell? ⟨p,1,none⟩=some (.slice none 0 0):=K3.out.cell 1;have zf1:W3.frozen? ⟨p,1,none⟩=false:=K3.out.free 1;have K4:=Lib.hid (dv K3.out (.string J) (.slice hA hn hcp));have B34:=Lib.hid (cn b3 HPW.out (.string J) (.slice hA hn hcp))
    obtain⟨w4,hw4⟩:∃ z,dE W3 p (.string J) (.slice hA hn hcp)=z:=⟨_,rfl⟩
    rw[hw4] at K4 B34;have B4:Hid (Below w.heap.size w w4):=BW.out.trans (B34.out.mono BW.out.size);have hpd:(⟨#[64]⟩++J:ByteArray).data.toList=64::hj:=by rw[← hJ];simp
    have hJs:J.size≤100000000:=by rw[← hJ,Lib.size_eq];exact(HUS wr BW.out).2.2
    have HPD:=Lib.hid hpd;have HC4:=Lib.hid (HCS.out (⟨#[64]⟩++J) w4);rw[hpd] at HC4;have HUS2:=Lib.hid HUS;clear b3 hcx HUS hpd hJ
    go_upto_region 4 with fail
    (try rw[hw4]);clear hW3 hw4 z0 zf0 z1 zf1 p0 p1 hp;have e0:w4.cell? ⟨p,0,none⟩=some (.string J):=K4.out.cell 0
    by_cases hhs:Lib.hasSuffix s (64::hj)=true
    · have hts:=rZ hhs
      rw[hhs] at HC4
      obtain⟨nm,hnm⟩:∃ nm,Lib.trimSuffix s (64::hj)=nm:=⟨_,rfl⟩
      rw[hnm] at HC4 hts;have HTS:=Lib.hid hts
      obtain⟨W5,hW5⟩:∃ W,w4.alloc (.cells #[.string ⟨#[]⟩] 9)=W:=⟨_,rfl⟩
      obtain⟨q,hq⟩:∃ b,w4.heap.size=b:=⟨_,rfl⟩
      have K5:Hid (Bk W5 q 9 #[.string ⟨#[]⟩]):=by rw[← hW5,← hq];exact Bk.new _ _ _
      have b5:Below w4.heap.size w4 W5:=by rw[← hW5];exact(Below.refl _ _).alloc (Nat.le_refl _) _
      have HQW:Hid (w4.heap.size≤q):=by rw[← hq];exact Nat.le_refl _
      have y0:W5.cell? ⟨q,0,none⟩=some (.string ⟨#[]⟩):=K5.out.cell 0;have yf0:W5.frozen? ⟨q,0,none⟩=false:=K5.out.free 0;have K6:=Lib.hid (cE K5.out (.string (aa nm)));have B46:=Lib.hid (bp b5 HQW.out (.string (aa nm)))
      obtain⟨w6,hw6⟩:∃ z,ct W5 q (.string (aa nm))=z:=⟨_,rfl⟩
      rw[hw6] at K6 B46;have B6:Hid (Below w.heap.size w w6):=B4.out.trans (B46.out.mono B4.out.size);have hR6:=HUS2.out w6 B6.out;have HI6:Hid (Calls Tryz.prog 57 #[.slice hA hn hcp,.func (.func 58) #[] #[.pointer (some ⟨q,0,none⟩)]] w6 fun e w'=>∃ z,wI hus nm z∧e=.returned (.int .i64 z)∧Below w6.heap.size w6 w'):=oX (.slice hA hn hcp) hus nm q w6 hR6.1.1 hR6.2.1 K6.out;have HUV:Hid (∃ A2 c2,Value.slice hA hn hcp=.slice A2 hus.length c2∧(0 < hus.length→∃ b off,A2=some ⟨b,off,none⟩)):=by
       obtain⟨A2,c2,h1,h2⟩:=hR6.1.1
       refine⟨A2,c2,h1,fun h0=>?_⟩
       obtain⟨b',o',h3,_⟩:=h2 h0
       exact⟨b',o',h3⟩
      have HB6:Hid (∀ W,Below w6.heap.size w6 W→W.cell? ⟨p,1,none⟩=some (.slice hA hn hcp)):=fun W hW=>(K4.out.below (B46.out.trans (hW.mono B46.out.size)) K4.out.lt).cell 1
      have hul:=hR6.2.1
      obtain⟨NM,hNM⟩:∃ NM,aa nm=NM:=⟨_,rfl⟩
      have hNM2:(⟨nm.toArray⟩:ByteArray)=NM:=hNM;rw[hNM2] at HC4;rw[hNM] at hw6;clear b5 hts hnm hR6 hNM hNM2 hhs
      go_wp2_with fail
      refine HC4.out.mono ?_;rintro e w5 ⟨rfl,rfl⟩
      go_upto_region 6 with fail
      (try rw[hw6]);clear hW5 hw6 y0 yf0 e0 hq;have e1:=HB6.out w6 (Below.refl _ _)
      go_wp2_with fail
      refine HI6.out.mono ?_;rintro e w7 ⟨z,hz,rfl,b7⟩;have B7:Hid (Below w.heap.size w w7):=B6.out.trans (b7.mono B6.out.size);have e2:=HB6.out w7 b7;clear e1 b7;rcases hz with ⟨rfl,hno⟩ | ⟨k,u,rfl,hku,hun,hkb⟩
      · have HNO2:=Lib.hid (HNX.out (fun u' hu' h=>by
         have h1:u'.name++64::hj=s:=h;rw[← HTS.out] at h1;exact hno u' hu' (List.append_cancel_right h1)))
        clear hno
        go_wp2_with fail
        go_roundw
        case rel=>exact⟨_,_,_,_,i+1,rfl,rfl,rfl,rfl,by go_num,by omega,HNO2,B7⟩
        case measure=>simp[intOf];omega
      · have hk:k < hus.length:=(List.getElem?_eq_some_iff.1 hku).1
        obtain⟨A2,c2,hv2,ha2⟩:=HUV.out
        obtain⟨b',o',rfl⟩:=ha2 (by omega)
        injection hv2 with v1 v2 v3;subst v1 v2 v3;have HF:=Lib.hid (HFI.out k u hku (by show u.name++64::hj=s;rw[hun];exact HTS.out) (fun k' u' hk' hu' h=>by
         have h1:u'.name++64::hj=s:=h;rw[← HTS.out] at h1;exact hkb k' u' hk' hu' (List.append_cancel_right h1)))
        have hkz:(k:Int) < (hus.length:Int):=by omega
        have hk0:(0:Int)≤(k:Int):=by omega
        have hkd:decide ((0:Int)≤(k:Int))=true:=decide_eq_true hk0;have hkd2:decide ((k:Int)≥(0:Int))=true:=decide_eq_true hk0;clear hku hun hkb hk
        go_wp2_with fail
        go_ret
        exact⟨B7.out,.inr ⟨i,k,_,u,b',o',_,_,HF.out,rfl,rfl⟩⟩
    · have hhf:Lib.hasSuffix s (64::hj)=false:=by simpa using hhs
      have HNO2:=Lib.hid (HNX.out (fun u' _ h=>rC hhf u'.name h));rw[hhf] at HC4
      obtain⟨nm,hnm⟩:∃ nm,(⟨(Lib.trimSuffix s (64::hj)).toArray⟩:ByteArray)=nm:=⟨_,rfl⟩
      rw[hnm] at HC4
      obtain⟨W5,hW5⟩:∃ W,w4.alloc (.cells #[.string ⟨#[]⟩] 9)=W:=⟨_,rfl⟩
      obtain⟨q,hq⟩:∃ b,w4.heap.size=b:=⟨_,rfl⟩
      have K5:Hid (Bk W5 q 9 #[.string ⟨#[]⟩]):=by rw[← hW5,← hq];exact Bk.new _ _ _
      have b5:Below w4.heap.size w4 W5:=by rw[← hW5];exact(Below.refl _ _).alloc (Nat.le_refl _) _
      have HQW:Hid (w4.heap.size≤q):=by rw[← hq];exact Nat.le_refl _
      have y0:W5.cell? ⟨q,0,none⟩=some (.string ⟨#[]⟩):=K5.out.cell 0;have yf0:W5.frozen? ⟨q,0,none⟩=false:=K5.out.free 0;have B46:=Lib.hid (bp b5 HQW.out (.string nm))
      obtain⟨w6,hw6⟩:∃ z,ct W5 q (.string nm)=z:=⟨_,rfl⟩
      rw[hw6] at B46;have B6:Hid (Below w.heap.size w w6):=B4.out.trans (B46.out.mono B4.out.size);clear b5 hnm hhs hhf
      go_wp2_with fail
      refine HC4.out.mono ?_;rintro e w5 ⟨rfl,rfl⟩
      go_upto_region 5 with fail
      (try rw[hw6]);clear hW5 hw6 y0 yf0 e0 hq
      go_wp2_with fail
      go_roundw
      case rel=>exact⟨_,_,_,_,i+1,rfl,rfl,rfl,rfl,by go_num,by omega,HNO2,B6⟩
      case measure=>simp[intOf];omega
  · have hiz:¬ (i:Int) < (n:Int):=by omega
    go_wp2_with fail
    go_ret
    exact⟨BW.out,.inl ⟨fun h hh=>by
     obtain⟨i',hi',rfl⟩:=List.getElem_of_mem hh
     exact HNO.out i' _ (by have:=HN.out;omega) (List.getElem?_eq_getElem hi'),rfl⟩⟩
end Go.Proofs.YtbgaglcgennhiaaGreatDoor
end
section
namespace Go.Proofs.YtbgaglcgennhiaaGreatDoor
open Go.RowKit Go.Sort Tx Ct
def qh:Value:=.agg #[.string ⟨#[]⟩,.string ⟨#[]⟩,.slice none 0 0,.slice none 0 0]
def wl (hs:List aK) (s:List UInt8) (w:World) (e:Ending) (w':World):Prop :=
 Below w.heap.size w w'∧((NoU hs s∧e=.returned (.tuple #[qh,.bool false])) ∨
  ∃ i k h u y,FirstU hs s i k h u∧e=.returned (.tuple #[.agg (af y).toArray,.bool true])∧cG y=cG u∧LiveU w.heap.size w'.heap.size w' y)
set_option maxHeartbeats 8000000 in
set_option maxRecDepth 100000 in
theorem ko (v:Value) (hs:List aK) (s:List UInt8) (w:World) (hR:ReadH w v hs) (hl:hs.length≤1000000) (hs2:∀ h∈hs,iD h) (hsl:s.length≤1000000000) :
 Calls Tryz.prog 13 #[.agg #[v],.string (aa s)] w fun e w'=>wl hs s w e w':=by
 obtain⟨va,vn,vc,rfl⟩:∃ a n c,v=.slice a n c:=by obtain⟨⟨A,cap,hv,_⟩,_⟩:=hR;exact⟨A,_,cap,hv⟩
 obtain⟨W1,hW1⟩:∃ W1,w.alloc (.cells #[.slice va vn vc] 24)=W1:=⟨_,rfl⟩
 obtain⟨sb,hsb⟩:∃ bx,w.heap.size=bx:=⟨_,rfl⟩
 obtain⟨W2,hW2⟩:∃ W2,W1.alloc (.cells #[.string ⟨#[]⟩,.string ⟨#[]⟩,.slice none 0 0,.slice none 0 0] 28)=W2:=⟨_,rfl⟩
 obtain⟨rb,hrb1⟩:∃ r,sb+1=r:=⟨_,rfl⟩
 have hrb:W1.heap.size=rb:=by rw[← hW1,World.size_alloc,hsb,hrb1]
 have k1:Bk W1 sb 24 #[.slice va vn vc]:=by rw[← hW1,← hsb];exact Bk.new _ _ _
 have k2:Bk W2 sb 24 #[.slice va vn vc]:=by rw[← hW2];exact k1.alloc _
 have R2:Hid (Bk W2 rb 28 #[.string ⟨#[]⟩,.string ⟨#[]⟩,.slice none 0 0,.slice none 0 0]):=by rw[← hW2,← hrb];exact Bk.new _ _ _
 have B2:Hid (Below w.heap.size w W2):=by rw[← hW2,← hW1];exact((Below.refl _ _).alloc (Nat.le_refl _) _).alloc (by rw[World.size_alloc];omega) _
 have HRW:Hid (w.heap.size≤rb):=by unfold Hid;omega
 have HAT:=Lib.hid (qb (.slice va vn vc) hs s W2 (hR.upon B2.out) hl (fun h hh=>⟨(hs2 h hh).users,(hs2 h hh).name⟩) hsl);have HUS:Hid (∀ W,Below W2.heap.size W2 W→∀ i k h u,FirstU hs s i k h u→ReadU W (sl h.uv) h.users∧InU W u∧lK u):=fun W hW i k h u hf=>by
  have hmem:h∈hs:=List.mem_of_getElem? hf.host;have hum:u∈h.users:=List.mem_of_getElem? hf.user;have hr:=((hR.upon B2.out).upon hW).2 h hmem
  exact⟨hr,hr.2 u hum,(hs2 h hmem).each u hum⟩
 have c0:W2.cell? ⟨sb,0,none⟩=some (.slice va vn vc):=k2.cell 0;have HW1:=Lib.hid hW1;have HW2:=Lib.hid hW2;have HSB:=Lib.hid hsb;have HRB:=Lib.hid hrb1
 obtain⟨S,hS⟩:∃ S,aa s=S:=⟨_,rfl⟩
 rw[hS] at HAT ⊢;clear hW1 hW2 hsb hrb1 hrb k1 k2 hR hl hs2 hsl hS;go_enter Tryz.func13,Tryz.ntmps13
 go_upto_region 1 with fail
 (try rw[HW1.out]);(try rw[HSB.out]);(try rw[HRB.out]);(try rw[HW2.out])
 go_wp2_with fail
 refine HAT.out.mono ?_;rintro e w3 ⟨b3,h3⟩;have B3:Hid (Below w.heap.size w w3):=B2.out.trans (b3.mono B2.out.size);have R3:=Lib.hid (R2.out.below b3 R2.out.lt);have HB23:=Lib.hid b3;clear b3 c0 HAT;rcases h3 with ⟨hno,rfl⟩ | ⟨i,k,h,u,b,off,un,uc,hf,huv,rfl⟩
 · have HNO:=Lib.hid hno
   have r0:w3.cell? ⟨rb,0,none⟩=some (.string ⟨#[]⟩):=R3.out.cell 0;have g0:w3.frozen? ⟨rb,0,none⟩=false:=R3.out.free 0;have r1:w3.cell? ⟨rb,1,none⟩=some (.string ⟨#[]⟩):=R3.out.cell 1;have g1:w3.frozen? ⟨rb,1,none⟩=false:=R3.out.free 1;have r2:w3.cell? ⟨rb,2,none⟩=some (.slice none 0 0):=R3.out.cell 2;have g2:w3.frozen? ⟨rb,2,none⟩=false:=R3.out.free 2;have r3:w3.cell? ⟨rb,3,none⟩=some (.slice none 0 0):=R3.out.cell 3;have g3:w3.frozen? ⟨rb,3,none⟩=false:=R3.out.free 3;have R5:=Lib.hid (aF R3.out (.string ⟨#[]⟩) (.string ⟨#[]⟩) (.slice none 0 0) (.slice none 0 0));have B5:=Lib.hid (aj B3.out HRW.out (.string ⟨#[]⟩) (.string ⟨#[]⟩) (.slice none 0 0) (.slice none 0 0))
   obtain⟨w5,hw5⟩:∃ z,bj w3 rb (.string ⟨#[]⟩) (.string ⟨#[]⟩) (.slice none 0 0) (.slice none 0 0)=z:=⟨_,rfl⟩
   rw[hw5] at R5 B5;clear hno
   go_wp2_with fail
   (try rw[hw5]);have j0:w5.cell? ⟨rb,0,none⟩=some (.string ⟨#[]⟩):=R5.out.cell 0;have j1:w5.cell? ⟨rb,1,none⟩=some (.string ⟨#[]⟩):=R5.out.cell 1;have j2:w5.cell? ⟨rb,2,none⟩=some (.slice none 0 0):=R5.out.cell 2;have j3:w5.cell? ⟨rb,3,none⟩=some (.slice none 0 0):=R5.out.cell 3;refine bodyPost_ret (v:=.tuple #[qh,.bool false]) (by simp[qh,results,Tryz.results13,go_sem,j0,j1,j2,j3]) rfl ?_
   exact⟨B5.out,.inl ⟨HNO.out,rfl⟩⟩
 · have HF:=Lib.hid hf
   have hus:=HUS.out w3 HB23.out i k h u hf;rw[huv] at hus;have HOU:=Lib.hid (dV u w3 hus.2.1 hus.2.2)
   obtain⟨A0,cap0,hv0,hc0⟩:=hus.1.1
   have hku:=hf.user;have hkl:=(List.getElem?_eq_some_iff.1 hku).1
   obtain⟨b',o',ha0,_,hcc⟩:=hc0 (by omega)
   have e0:sl (some ⟨b,off,none⟩,un,uc)=.slice (some ⟨b,off,none⟩) un uc:=rfl;rw[e0] at hv0;injection hv0 with v1 v2 v3;rw[ha0] at v1;injection v1 with v1;injection v1 with v1 v4;subst v1 v4;have hcu:=fun c q hq=>hcc k u hku c q hq
   obtain⟨P,hP⟩:∃ P,off+k*4=P:=⟨_,rfl⟩
   rw[hP] at hcu ⊢;have HPL:Hid (cG u=cG u):=rfl
   obtain⟨uj,um,uis,⟨uA,unn,ucc⟩,ups,⟨uD,ue,uf⟩⟩:=u
   obtain⟨UX,hUX⟩:∃ J,aa uj=J:=⟨_,rfl⟩
   obtain⟨UM,hUM⟩:∃ J,aa um=J:=⟨_,rfl⟩
   have eu:af (⟨uj,um,uis,⟨uA,unn,ucc⟩,ups,⟨uD,ue,uf⟩⟩:aC)=[.string UX,.string UM,.slice uA unn ucc,.slice uD ue uf]:=by rw[← hUX,← hUM];rfl
   rw[eu] at hcu HOU;have p0:w3.cell? ⟨b,P,none⟩=some (.string UX):=hcu 0 _ rfl;have p1:w3.cell? ⟨b,P+1,none⟩=some (.string UM):=hcu 1 _ rfl;have p2:w3.cell? ⟨b,P+2,none⟩=some (.slice uA unn ucc):=hcu 2 _ rfl;have p3:w3.cell? ⟨b,P+3,none⟩=some (.slice uD ue uf):=hcu 3 _ rfl;clear hf huv hus hc0 hku hkl hcc hcu eu hUX hUM e0 ha0 HUS v2 v3
   go_wp2_with fail
   refine HOU.out.mono ?_;rintro e w4 ⟨y,rfl,⟨hpl,hlive⟩,b4⟩;have R4:=Lib.hid (R3.out.below b4 R3.out.lt);have B4:Hid (Below w.heap.size w w4):=B3.out.trans (b4.mono B3.out.size);have HPL2:=Lib.hid hpl;have HLV:=Lib.hid hlive;have HS34:Hid (w.heap.size≤w3.heap.size∧rb < w3.heap.size):=⟨B3.out.size,R3.out.lt⟩;clear p0 p1 p2 p3 b4 hpl hlive HPL
   obtain⟨y',hyy⟩:∃ y',y=y':=⟨_,rfl⟩
   have HYY:=Lib.hid hyy;rw[hyy];clear hyy
   obtain⟨yj,ym,yis,⟨A2,n2,c2⟩,yps,⟨D2,m2,d2⟩⟩:=y'
   obtain⟨X,hX⟩:∃ J,aa yj=J:=⟨_,rfl⟩
   obtain⟨M,hM⟩:∃ J,aa ym=J:=⟨_,rfl⟩
   have ey:(af (⟨yj,ym,yis,⟨A2,n2,c2⟩,yps,⟨D2,m2,d2⟩⟩:aC)).toArray=#[.string X,.string M,.slice A2 n2 c2,.slice D2 m2 d2]:=by rw[← hX,← hM];rfl
   have HEY:Hid ((af y).toArray=#[.string X,.string M,.slice A2 n2 c2,.slice D2 m2 d2]):=by unfold Hid;rw[HYY.out];exact ey
   rw[ey];clear ey hX hM;have r0:w4.cell? ⟨rb,0,none⟩=some (.string ⟨#[]⟩):=R4.out.cell 0;have g0:w4.frozen? ⟨rb,0,none⟩=false:=R4.out.free 0;have r1:w4.cell? ⟨rb,1,none⟩=some (.string ⟨#[]⟩):=R4.out.cell 1;have g1:w4.frozen? ⟨rb,1,none⟩=false:=R4.out.free 1;have r2:w4.cell? ⟨rb,2,none⟩=some (.slice none 0 0):=R4.out.cell 2;have g2:w4.frozen? ⟨rb,2,none⟩=false:=R4.out.free 2;have r3:w4.cell? ⟨rb,3,none⟩=some (.slice none 0 0):=R4.out.cell 3;have g3:w4.frozen? ⟨rb,3,none⟩=false:=R4.out.free 3;have R5:=Lib.hid (aF R4.out (.string X) (.string M) (.slice A2 n2 c2) (.slice D2 m2 d2));have B5:=Lib.hid (aj B4.out HRW.out (.string X) (.string M) (.slice A2 n2 c2) (.slice D2 m2 d2));have L5:Hid (LiveU w3.heap.size w4.heap.size (bj w4 rb (.string X) (.string M) (.slice A2 n2 c2) (.slice D2 m2 d2)) y):=aI _ _ _ _ _ (fun b hb _=>a5 rb [.string X,.string M,.slice A2 n2 c2,.slice D2 m2 d2] 0 w4 b (by have:=HS34.out.2;omega)) HLV.out;have HSZ5:Hid ((bj w4 rb (.string X) (.string M) (.slice A2 n2 c2) (.slice D2 m2 d2)).heap.size=w4.heap.size):=bz rb [.string X,.string M,.slice A2 n2 c2,.slice D2 m2 d2] 0 w4
   obtain⟨w5,hw5⟩:∃ z,bj w4 rb (.string X) (.string M) (.slice A2 n2 c2) (.slice D2 m2 d2)=z:=⟨_,rfl⟩
   rw[hw5] at R5 B5 L5 HSZ5
   go_wp2_with fail
   (try rw[hw5]);have j0:w5.cell? ⟨rb,0,none⟩=some (.string X):=R5.out.cell 0;have j1:w5.cell? ⟨rb,1,none⟩=some (.string M):=R5.out.cell 1;have j2:w5.cell? ⟨rb,2,none⟩=some (.slice A2 n2 c2):=R5.out.cell 2;have j3:w5.cell? ⟨rb,3,none⟩=some (.slice D2 m2 d2):=R5.out.cell 3;refine bodyPost_ret (v:=.tuple #[.agg #[.string X,.string M,.slice A2 n2 c2,.slice D2 m2 d2],.bool true]) (by simp[results,Tryz.results13,go_sem,j0,j1,j2,j3]) rfl ?_
   exact⟨B5.out,.inr ⟨i,k,h,_,y,HF.out,by rw[HEY.out],HPL2.out,fH _ _ _ _ _ _ HS34.out.1 (by rw[HSZ5.out];exact Nat.le_refl _) L5.out⟩⟩
end Go.Proofs.YtbgaglcgennhiaaGreatDoor
end

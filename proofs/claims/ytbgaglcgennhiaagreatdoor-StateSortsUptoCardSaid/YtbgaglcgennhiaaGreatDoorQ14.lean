import Derived.Test.YtbgaglcgennhiaaGreatDoorQ13
set_option maxHeartbeats 4000000
namespace Go.Proofs.YtbgaglcgennhiaaGreatDoor
section
open Go.RowKit Rg
theorem s7 (h l:Int) (w:World) (hh:qt h) (hl:qt l):Calls Tryz.prog 249 #[.int .i64 h,.int .i64 l] w fun e w'=>e=.returned (.bool (decide (h+1<l)))/\w=w':=by
 unfold qt at hh hl;rcases Bool.eq_false_or_eq_true (decide (h<l)) with h1|h1
 ·have hw:wrap64 (l-1)=l-1:=(by simp at h1;unfold wrap64;omega);have h2:decide (h<l-1)=decide (h+1<l):=(by rw[decide_eq_decide];omega);clear hh hl;generalize decide (h+1<l)=q at h2 ⊢;go_enter Tryz.func249,Tryz.ntmps249;(go_wp2_with fail);go_ret;exact⟨rfl,rfl⟩
 ·have h2:decide (h+1<l)=false:=(by simp at h1 ⊢;omega);rw[h2];clear hh hl h2;go_enter Tryz.func249,Tryz.ntmps249;(go_wp2_with fail);go_ret;exact⟨rfl,rfl⟩
theorem OwnR.moved {B:Nat} {w:World} {g cap:Nat} {ys:List R} {p z:Int × Int} {n:Nat} (h:OwnR B w (.slice (Option.some ⟨g,0,none⟩) n cap) (ys++[p])) (hz:z.1=p.1):
 OwnR B (w.setCell ⟨g,ys.length*2+1,none⟩ (.int .i64 z.2)) (.slice (Option.some ⟨g,0,none⟩) n cap) (ys++[z])/\Below B w (w.setCell ⟨g,ys.length*2+1,none⟩ (.int .i64 z.2)):=by
 obtain⟨g',cap',cur,e,hB,hk,h1,h2,h3,h4⟩:=h.full (by simp);injection e with e1 e2 e3;injection e1 with e1;injection e1 with e1;subst e1;subst e2;subst e3;have hl:(ys++[p]).length=(ys++[z]).length:=by simp
 have hl2:(ys++[z]).length=ys.length+1:=by simp
 refine⟨⟨di _,.inr ⟨g,cap,cur.setIfInBounds (ys.length*2+1) (.int .i64 z.2),by rw[hl],hB,hk.put _ _,by omega,h2,by simpa using h3,?_⟩⟩,⟨rfl,rfl,rfl,by simp[World.setCell],fun k hkb=>Below.heap_setCell _ _ _ _ (by simp;omega)⟩⟩;rw[fm,nu] at h4 ⊢;rw[hl] at h4;rw[hl2] at h4 ⊢;have hyl:=di ys;refine List.ext_getElem? fun j=>?_
 by_cases hj:j<(ys.length+1)*2
 ·have h5:=congrArg (·[j]?) h4;simp only[List.getElem?_take_of_lt hj] at h5 ⊢;rw[Array.toList_setIfInBounds,List.getElem?_set];by_cases hjj:ys.length*2+1=j
  ·subst hjj;rw[if_pos rfl,if_pos (by have:=Array.length_toList (xs:=cur);rw[hl,hl2] at h1;omega),List.getElem?_append_right (by omega)];rw[hyl,show ys.length*2+1-ys.length*2=1 by omega];rfl
  ·rw[if_neg hjj,h5];by_cases hj2:j<ys.length*2
   ·rw[List.getElem?_append_left (by omega),List.getElem?_append_left (by omega)]
   ·obtain rfl:j=ys.length*2:=(by omega);rw[List.getElem?_append_right (by omega),List.getElem?_append_right (by omega),hyl,Nat.sub_self,hz];rfl
 ·rw[List.getElem?_eq_none (by rw[dL];omega),List.getElem?_eq_none (by rw[de,hyl];simp;omega)]
theorem nD (B:Nat) (v:Value) (acc:List R) (a b:Int) (w:World) (hv:OwnR B w v acc) (hB:B<=w.heap.size) (hf:Fits acc) (hr:qt a/\qt b) (hl:acc.length<=100000000000):
 Calls Tryz.prog 221 #[v,.agg #[.int .i64 a,.int .i64 b]] w fun e w'=>∃ v',e=.returned v'/\OwnR B w' v' (Rg.step acc (a,b))/\Below B w w':=by
 have hb1:Below B w (w.alloc (.cells #[.int .i64 a,.int .i64 b] 185)):=(Below.refl B w).alloc hB _;have hk:=Bk.new w 185 #[.int .i64 a,.int .i64 b];have HV:=aa (hv.below ((Below.refl w.heap.size w).alloc (aq _) (.cells #[.int .i64 a,.int .i64 b] 185)));have HS:Hid (w.heap.size<(w.alloc (.cells #[.int .i64 a,.int .i64 b] 185)).heap.size):=aa (by simp);rcases List.eq_nil_or_concat acc with rfl|⟨ys,p,rfl⟩
 ·rw[iK];obtain⟨A,cap,rfl⟩:=hv.slice;clear hf hr hl hv;go_enter Tryz.func221,Tryz.ntmps221;(go_wp2_with fail);go_big_quiet (fail)
  obtain⟨w1,hw1⟩:=ac ((w.alloc (.cells #[.int .i64 a,.int .i64 b] 185)).drewN nq);have hv1:Hid (OwnR B w1 (.slice A ([]:List R).length cap) []):=(by rw[<-hw1];exact HV.out.below (be (aE _ _) nq));have hk1:Bk w1 w.heap.size 185 #[.int .i64 a,.int .i64 b]:=(by rw[<-hw1];exact hk);have hb2:Below B w w1:=(by rw[<-hw1];exact be hb1 nq);rw[hw1];have k0:=hk1.cell 0;have k1:=hk1.cell 1;have kf:=hk1.free 0;simp at k0 k1;have hB1:B<=w1.heap.size:=co hB hb2.size;clear hk hk1 hb1 hw1 HV HS;(go_wp2_with (at_builtin;refine pB rfl _ _ rfl B (.slice A ([]:List R).length cap) [] a b w1 rfl hv1.out rfl (by simp) hB1 ?_));intro v2 w2 o2 b2;have o2':=aa o2;have b3:=hb2.trans b2;clear o2 b2;(go_wp2_with fail);go_ret;exact⟨_,rfl,o2'.out,b3⟩
 ·rw[List.concat_eq_append] at *;obtain⟨x,y⟩:=p;obtain⟨g,cap,cur,rfl,hBg,hgk,hc1,hc2,hc3,hc4⟩:=hv.full (by simp);have hn:(ys++[(x,y)]).length=ys.length+1:=(by simp);have hxy:=hf (x,y) (by simp);have HA:=aa (fun (W:World)=>s7 y a W hxy.2 hr.1);have hcell:=hv.reads;obtain⟨A',cap',e',_,hx⟩:=hcell;injection e' with e1 e2 e3;subst e1;subst e3;obtain⟨ad,e4,_,hc⟩:=hx (by rw[hn];omega);injection e4 with e4;subst e4;have hcc:=hc ys.length (x,y) (by simp);rw[aS,Nat.zero_add] at hcc
  obtain⟨c0,c1⟩:=hcc;simp only at c0 c1;have hgl:=hgk.lt;have HG:=aa hgl;have d1:(w.alloc (.cells #[.int .i64 a,.int .i64 b] 185)).cell? ⟨g,ys.length*2+1,none⟩=some (.int .i64 y):=(by rw[<-c1];exact World.cell?_of_block (Below.heap_alloc w _ g hgl));have HF:Hid (∀ W,Below w.heap.size w W->W.frozen? ⟨g,ys.length*2+1,none⟩=false):=aa (fun W h=>by rw[h.frozen (p:=⟨g,_,none⟩) hgl];exact hgk.free _);rw[hn] at hl HV ⊢;obtain⟨n,hn1,hn2⟩:∃ n:Nat,ys.length+1=n/\(n:Int)-1=(ys.length:Int):=⟨_,rfl,by omega⟩;have hlt:ys.length<n:=(by omega);have hbig:n<=100000000000:=(by omega);rw[hn1] at HV ⊢;clear hc1 hc2 hc3 hc4 hc hx c0 c1 hf hr hl hgk hn hxy hn1 hv;rcases Bool.eq_false_or_eq_true (decide (y+1<a)) with h|h
  ·rw[fu ys (x,y) (a,b) (by simpa using h)];have hz:decide ((ys.length:Int)<0)=false:=(by simp);rw[h] at HA;clear h;go_enter Tryz.func221,Tryz.ntmps221;(go_wp2_with fail);go_big_quiet ((go_at_call 249;exact(HA.out _).mono (fun _ _ h=>⟨h.1,_,h.2.symm⟩)))
   obtain⟨w1,hw1⟩:=ac ((w.alloc (.cells #[.int .i64 a,.int .i64 b] 185)).drewN nq);have hv1:Hid (OwnR B w1 (.slice (some ⟨g,0,none⟩) n cap) (ys++[(x,y)])):=(by rw[<-hw1];exact HV.out.below (be (aE _ _) nq));have hk1:Bk w1 w.heap.size 185 #[.int .i64 a,.int .i64 b]:=(by rw[<-hw1];exact hk);have hb2:Below B w w1:=(by rw[<-hw1];exact be hb1 nq);have hb3:Below w.heap.size w w1:=(by rw[<-hw1];exact be ((Below.refl w.heap.size w).alloc (aq _) _) nq);rw[hw1];have k0:=hk1.cell 0;have k1:=hk1.cell 1;have kf:=hk1.free 0;simp at k0 k1;have hB1:B<=w1.heap.size:=co hB hb2.size;have d2:w1.cell? ⟨g,ys.length*2+1,none⟩=some (.int .i64 y):=(by rw[<-hw1];exact d1);have df:=HF.out w1 hb3;clear hk hk1 hb1 hb3 hw1 HV HS d1 HF;(go_wp2_with (at_builtin;refine pB rfl _ _ rfl B (.slice (some ⟨g,0,none⟩) n cap) (ys++[(x,y)]) a b w1 rfl hv1.out rfl (by simp;omega) hB1 ?_));intro v2 w2 o2 b2;have o2':=aa o2;have b3:=hb2.trans b2;clear o2 b2;(go_wp2_with fail);go_ret;exact⟨_,rfl,by rw[List.append_assoc];exact o2'.out,b3⟩
  ·rw[eI ys (x,y) (a,b) (by simpa using h)];have hz:decide ((ys.length:Int)<0)=false:=(by simp);rw[h] at HA;clear h;go_enter Tryz.func221,Tryz.ntmps221;(go_wp2_with fail);go_big_quiet ((go_at_call 249;exact(HA.out _).mono (fun _ _ h=>⟨h.1,_,h.2.symm⟩)))
   obtain⟨w1,hw1⟩:=ac ((w.alloc (.cells #[.int .i64 a,.int .i64 b] 185)).drewN nq);have hv1:Hid (OwnR B w1 (.slice (some ⟨g,0,none⟩) n cap) (ys++[(x,y)])):=(by rw[<-hw1];exact HV.out.below (be (aE _ _) nq));have hk1:Bk w1 w.heap.size 185 #[.int .i64 a,.int .i64 b]:=(by rw[<-hw1];exact hk);have hb2:Below B w w1:=(by rw[<-hw1];exact be hb1 nq);have hb3:Below w.heap.size w w1:=(by rw[<-hw1];exact be ((Below.refl w.heap.size w).alloc (aq _) _) nq);rw[hw1];have k0:=hk1.cell 0;have k1:=hk1.cell 1;have kf:=hk1.free 0;simp at k0 k1;have hB1:B<=w1.heap.size:=co hB hb2.size;have d2:w1.cell? ⟨g,ys.length*2+1,none⟩=some (.int .i64 y):=(by rw[<-hw1];exact d1);have df:=HF.out w1 hb3;clear hk hk1 hb1 hb3 hw1 HV HS d1 HF;(go_wp2_with fail);go_region
   obtain⟨o2,b2⟩:=hv1.out.moved (z:=(x,max y b)) rfl;have o2':Hid (OwnR B (w1.setCell ⟨g,ys.length*2+1,none⟩ (.int .i64 (max y b))).drew (.slice (some ⟨g,0,none⟩) n cap) (ys++[(x,max y b)])):=o2;have b3:Below B w (w1.setCell ⟨g,ys.length*2+1,none⟩ (.int .i64 (max y b))).drew:=(hb2.trans b2).drew;clear o2 b2;(go_wp2_with fail);go_ret;exact⟨_,rfl,o2'.out,b3⟩
theorem kZ (va vb:Value) (a b:List R) (w:World) (ha:ReadR w.heap.size w va a) (hb:ReadR w.heap.size w vb b) (fa:Fits a) (fb:Fits b) (hl:a.length<=10000000000) (hm:b.length<=10000000000):
 Calls Tryz.prog 189 #[va,vb] w fun e w'=>∃ v,e=.returned v/\OwnR w.heap.size w' v (cE a b)/\Below w.heap.size w w':=by
 have HRA:=aa (mz va a w ha (by omega));have HRB:=aa (fun W (h:Below w.heap.size w W)=>mz vb b W ((hb.below h).more h.size) (by omega));obtain⟨Aa,ca,rfl,ha1,ha2⟩:=ha;obtain⟨Ab,cb,rfl,hb1,hb2⟩:=hb;have HA:Hid (ReadR w.heap.size w (.slice Aa a.length ca) a):=⟨Aa,ca,rfl,ha1,ha2⟩;have HB:Hid (ReadR w.heap.size w (.slice Ab b.length cb) b):=⟨Ab,cb,rfl,hb1,hb2⟩;clear ha1 ha2 hb1 hb2;cases hra:bn a with
 | false=>rw[hra] at HRA;rw[jz (by rw[hra];simp)];go_enter Tryz.func189,Tryz.ntmps189;(go_wp2_with (go_at_call 216;refine HRA.out.mono ?_;rintro e w1 ⟨rfl,b1⟩));go_ret;exact⟨_,rfl,OwnR.nil _ _,b1⟩
 | true=>
   cases hrb:bn b with
   | false=>rw[hra] at HRA;rw[hrb] at HRB;rw[jz (by rw[hrb];simp)];go_enter Tryz.func189,Tryz.ntmps189;(go_wp2_with fail);refine HRA.out.mono ?_;rintro e w1 ⟨rfl,b1⟩;(go_wp2_with fail);refine(HRB.out w1 b1).mono ?_;rintro e w2 ⟨rfl,b2⟩;have b3:=b1.trans (b2.mono b1.size);clear b2;(go_wp2_with fail);go_ret;exact⟨_,rfl,OwnR.nil _ _,b3⟩
   | true=>
     have HJ:=aa (fun (d:List R) (hp:d.Perm (a++b)) (hs:d.Pairwise fun p q=>p.1<=q.1)=>o8 (IsJoin.of_sorted hra hrb hp hs));rw[hra] at HRA;rw[hrb] at HRB;have HF:=aa (fa.append fb);clear hra hrb fa fb;go_enter Tryz.func189,Tryz.ntmps189;(go_wp2_with fail);refine HRA.out.mono ?_;rintro e w1 ⟨rfl,b1⟩;(go_wp2_with fail);refine(HRB.out w1 b1).mono ?_;rintro e w2 ⟨rfl,b2⟩;have b3:=b1.trans (b2.mono b1.size);have hs3:=b3.size;have b4:=b3.alloc hs3 (.cells #[.slice Aa a.length ca,.slice Ab b.length cb] 166);have hs4:=b4.size;have HC:=aa (qD w2.heap.size _ _ a b _ 166 (Bk.new w2 166 #[.slice Aa a.length ca,.slice Ab b.length cb]) ((HA.out.below b4).more hs4) ((HB.out.below b4).more hs4) (by omega) (by omega));clear b1 b2;(go_wp2_with fail);refine HC.out.mono ?_;rintro e w5 ⟨v5,rfl,o5,b5⟩;have b6:=b4.trans (b5.mono hs4);have o6:=o5.weak hs4;have HS:=aa (yb w.heap.size v5 (a++b) w5 o6 (by simp;omega));clear b5 o5 b4 HC b3 o6;(go_wp2_with fail);refine HS.out.mono ?_;rintro e w7 ⟨rfl,d,hp,hs,o7,b7⟩;have b8:=b6.trans b7;have hdl:d.length=a.length+b.length:=(by rw[hp.length_eq,de]);have HD:=aa (HJ.out d hp hs);have HDF:Hid (Fits d):=aa (fun r hr=>HF.out r (hp.mem_iff.1 hr));have O7:=aa o7;obtain⟨A7,c7,rfl⟩:=o7.slice;have hdb:d.length<=20000000000:=(by omega);clear b7 b6 HS HJ hp hs HF o7 hdl;have HR7:=aa O7.out.reads;go_wp2_with fail
     go_loopw [6,25] (fun vv i wr=>∃ (k:Nat) (v:Value),vv=v/\k<=d.length/\i=.int .i64 k/\Below w.heap.size w wr/\Below w7.heap.size w7 wr/\Hid (OwnR w7.heap.size wr v ((d.take k).foldl Rg.step []))) (fun _ i _=>d.length-(intOf i).toNat)
     case atStart=>exact⟨0,_,rfl,bI _,rfl,b8,aE _ _,OwnR.nil _ _⟩
     case round=>
      obtain⟨k,v,hv,hk,rfl,bw,bw7,ho⟩:=hrel;have hv2:=hv.symm;clear hv;subst hv2;have hsw7:=bw7.size;by_cases hlt:k<d.length
      ·obtain⟨A8,c8,e8,_,hx⟩:=HR7.out;injection e8 with e1 e2 e3;subst e1;clear e2 e3;obtain⟨ad,rfl,hlb,hc⟩:=hx (by omega);obtain⟨⟨p,q⟩,hr⟩:∃ r,d[k]?=some r:=⟨_,aQ hlt⟩;have hcc:=hc k _ hr;have c0:=hcc.1;have c1:=hcc.2;rw[<-bw7.cell (p:=ad.add (k*2)) (by rw[aC];omega)] at c0;rw[<-bw7.cell (p:=⟨(ad.add (k*2)).block,(ad.add (k*2)).off+1,none⟩) (by show (ad.add (k*2)).block<_;rw[aC];omega)] at c1;have b9:=bw7.alloc hsw7 (.cells #[.int .i64 p,.int .i64 q] 185);have hacc:=fG (d.take k) [];have HN:=aa (nD w7.heap.size v ((d.take k).foldl Rg.step []) p q (wr.alloc (.cells #[.int .i64 p,.int .i64 q] 185)) (ho.out.below (bp _ _)) (by simp;omega) (iX (fun r hr=>by simp at hr) (fun r hr=>HDF.out r (List.mem_of_mem_take hr))) (HDF.out (p,q) (fA hr)) (by simp at hacc;omega));have htk:Hid ((d.take (k+1)).foldl Rg.step []=Rg.step ((d.take k).foldl Rg.step []) (p,q)):=aa (by rw[List.take_add_one,hr];simp);have bw2:=bw.alloc bw.size (.cells #[.int .i64 p,.int .i64 q] 185);clear hcc hc hx hr hacc;simp only at c0 c1;(go_wp2_with fail);refine HN.out.mono ?_;rintro e w10 ⟨v10,rfl,o10,b10⟩;have b11:=b9.trans b10;have o11:Hid (OwnR w7.heap.size w10 v10 ((d.take (k+1)).foldl Rg.step [])):=(by unfold Hid;rw[htk.out];exact o10);have bw3:=bw2.trans (b10.mono b8.size);clear b9 b10 o10 bw2 HN htk;(go_wp2_with fail);go_roundw;case rel=>exact⟨k+1,_,rfl,by omega,by go_num,bw3,b11,o11⟩
       case measure=>simp[intOf];omega
      ·have hke:k=d.length:=(by omega);have ho2:Hid (OwnR w.heap.size wr v (cE a b)):=(by have:=ho.out;rw[hke,List.take_length,HD.out] at this;exact this.weak b8.size);clear hke;(go_wp2_with fail);go_ret;exact⟨_,rfl,ho2.out,bw⟩
end
section
open Go.RowKit Rg Tx
theorem oq:gu 202 Pr.besideBL:=by
 intro w;go_enter Tryz.func202,Tryz.ntmps202;go_wp2_with fail
 go_ret;exact⟨_,rfl,gf (l:=Pr.besideBL) rfl (by unfold Pr.besideBL;simp only[bH,cT]) (by decide)⟩
theorem ot:gu 192 Pr.besideLL:=by
 intro w;go_enter Tryz.func192,Tryz.ntmps192;go_wp2_with fail
 go_ret;exact⟨_,rfl,gf (l:=Pr.besideLL) rfl (by unfold Pr.besideLL;simp only[bH,cT]) (by decide)⟩
theorem kX {a b:List R} (ha:bn a=true) (hb:bn b=true) (c:Int):bO (cE a b) c=(bO a c||bO b c):=by
 rcases kY a b with ⟨_,_,_,h⟩|⟨h,_⟩
 ·exact h c
 ·exact absurd ⟨ha,hb⟩ h
theorem Au:(fun c:Nat=>bO (cE aG Pr.besideBL) c)=Pr.wrong 1:=by
 funext c
 rw[kX (by decide) (by decide)];rfl
theorem Av (c:Nat):(!bO (cE (cE au ag) Pr.besideLL) c)=Pr.wrong 2 c:=by rw[kX (pa _ _) (by decide),kX (by decide) (by decide)];rfl
theorem oG:Fits aG:=by unfold Fits qt aG;simp
theorem m4:Fits Pr.besideBL:=by unfold Fits qt Pr.besideBL;simp
theorem ik:Fits au:=by unfold Fits qt au;simp
theorem fF:Fits ag:=by unfold Fits qt ag;simp
theorem m5:Fits Pr.besideLL:=by unfold Fits qt Pr.besideLL;simp
theorem pd (a b:List R) (h:a.length+b.length<=100):(cE a b).length<=100:=co (iy a b) h
theorem pk (s:ByteArray) (w:World) (hT:Tabs w) (hs:s.size<=1000000000):
 Calls Tryz.prog 164 #[.string s] w fun e w'=>e=.returned (eF 1 s.data.toList)/\Below w.heap.size w w':=by
 have H1:=aa (kr w);have H2:=aa oq;have HJ:=aa (fun (B C:Nat) v u W (h:OwnR B W v aG) (h2:OwnR C W u Pr.besideBL)=>kZ v u _ _ W h.reads h2.reads oG m4 (by simp[aG]) (by simp[Pr.besideBL]));have HW:=aa (fun (B:Nat) v W (h:OwnR B W v (cE aG Pr.besideBL))=>dQ v _ W h.reads (co (pd aG Pr.besideBL (by decide)) (by decide)));rw[Au] at HW;have HK:=aa (fun q W (h:Below w.heap.size w W) (hq:Asks W q (Pr.wrong 1))=>k6 1 s (.func (.func 194) #[] #[]) q W (hT.below h) hs (lE W) hq);obtain⟨r,hr⟩:=ac (Pr.prepL 1 s.data.toList);have hv:=eo (a:=r.1) (n:=r.2) hr;obtain⟨a,ha⟩:=ac (⟨r.1.toArray⟩:ByteArray);rw[ha] at hv;obtain⟨n,hn⟩:∃ n:Int,((r.2:Nat):Int)=n:=⟨_,rfl⟩;rw[hn] at hv;rw[hv] at HK ⊢;obtain⟨L,hL⟩:=ac (cE aG Pr.besideBL);rw[hL] at HJ HW;clear hT hs hr hv ha hn hL;go_enter Tryz.func164,Tryz.ntmps164;go_wp2_with fail
 refine H1.out.mono ?_;rintro e w1 ⟨v1,rfl,o1,b1⟩;have B1:=aa b1;have O1:=aa o1;obtain⟨A1,c1,rfl⟩:=o1.slice;clear o1 b1;go_wp2_with fail
 refine(H2.out w1).mono ?_;rintro e w2 ⟨v2,rfl,o2,b2⟩;have B2:=aa (B1.out.trans (b2.mono B1.out.size));have P2:=aa (O1.out.below b2);have O2:=aa o2;obtain⟨A2,c2,rfl⟩:=o2.slice;clear o2 b2;go_wp2_with fail
 refine(HJ.out _ _ _ _ w2 P2.out O2.out).mono ?_;rintro e w3 ⟨v3,rfl,o3,b3⟩;have B3:=aa (B2.out.trans (b3.mono B2.out.size));have O3:=aa o3;obtain⟨A3,c3,rfl⟩:=o3.slice;clear o3 b3;go_wp2_with fail
 refine(HW.out _ _ w3 O3.out).mono ?_;rintro e w4 ⟨v4,rfl,q4,b4⟩;have B4:=aa (B3.out.trans (b4.mono B3.out.size));have K4:=aa (HK.out _ w4 B4.out q4);obtain⟨G,gb,rfl,-,-⟩:=q4;clear b4;go_wp2_with fail
 refine K4.out.mono ?_;rintro e w5 ⟨rfl,b5⟩;have B5:=aa (B4.out.trans (b5.mono B4.out.size));clear b5;go_wp2_with fail
 go_ret2
 exact⟨rfl,B5.out⟩
theorem nC (s:ByteArray) (w:World) (hT:Tabs w) (hs:s.size<=1000000000):
 Calls Tryz.prog 186 #[.string s] w fun e w'=>e=.returned (eF 3 s.data.toList)/\Below w.heap.size w w':=by
 have H1:=aa (kr w);have HW:=aa (fun (B:Nat) v W (h:OwnR B W v aG)=>dQ v _ W h.reads (by simp[aG]));have HK:=aa (fun q W (h:Below w.heap.size w W) (hq:Asks W q (fun c:Nat=>bO aG c))=>k6 3 s (.func (.func 213) #[] #[]) q W (hT.below h) hs (uI W) hq);obtain⟨r,hr⟩:=ac (Pr.prepL 3 s.data.toList);have hv:=eo (a:=r.1) (n:=r.2) hr;obtain⟨a,ha⟩:=ac (⟨r.1.toArray⟩:ByteArray);rw[ha] at hv;obtain⟨n,hn⟩:∃ n:Int,((r.2:Nat):Int)=n:=⟨_,rfl⟩;rw[hn] at hv;rw[hv] at HK ⊢;clear hT hs hr hv ha hn;go_enter Tryz.func186,Tryz.ntmps186;go_wp2_with fail
 refine H1.out.mono ?_;rintro e w1 ⟨v1,rfl,o1,b1⟩;have B1:=aa b1;have O1:=aa o1;obtain⟨A1,c1,rfl⟩:=o1.slice;clear o1 b1;go_wp2_with fail
 refine(HW.out _ _ w1 O1.out).mono ?_;rintro e w4 ⟨v4,rfl,q4,b4⟩;have B4:=aa (B1.out.trans (b4.mono B1.out.size));have K4:=aa (HK.out _ w4 B4.out q4);obtain⟨G,gb,rfl,-,-⟩:=q4;clear b4;go_wp2_with fail
 refine K4.out.mono ?_;rintro e w5 ⟨rfl,b5⟩;have B5:=aa (B4.out.trans (b5.mono B4.out.size));clear b5;go_wp2_with fail
 go_ret2
 exact⟨rfl,B5.out⟩
theorem tt (g:Nat) (vg:Value) (p:Nat->Bool) (w0:World) (hq:Asks w0 vg p) (c:Nat) (W:World) (hW:Below w0.heap.size w0 W) (hg:W.cell? ⟨g,0,none⟩=some vg):
 Calls Tryz.prog 195 (#[.int .i64 c]++#[.pointer (some ⟨g,0,none⟩)]) W fun e w'=>e=.returned (.bool (!p c))/\Below W.heap.size W w':=by
 obtain⟨G,gb,rfl,eg,hq⟩:=hq;have HQ:=aa (hq c W hW);clear hq;obtain⟨b,hb⟩:=ac (p c);rw[hb] at HQ ⊢;clear hb;cases b
 all_goals
  go_enter Tryz.func195,Tryz.ntmps195;go_wp2_with fail
  refine HQ.out.mono ?_;rintro e w2 ⟨rfl,b2⟩;go_wp2_with fail
  go_ret;exact⟨rfl,b2⟩
theorem wJ (s:ByteArray) (w:World) (hT:Tabs w) (hs:s.size<=1000000000):
 Calls Tryz.prog 158 #[.string s] w fun e w'=>e=.returned (eF 2 s.data.toList)/\Below w.heap.size w w':=by
 have H1:=aa (jA w);have H2:=aa gy;have H3:=aa ot;have HJ:=aa (fun (B C:Nat) v u W (h:OwnR B W v au) (h2:OwnR C W u ag)=>kZ v u _ _ W h.reads h2.reads ik fF (by simp[au]) (by simp[ag]));have hJ2:=pd au ag (by decide);have HJ2:=aa (fun (B C:Nat) v u W (h:OwnR B W v (cE au ag)) (h2:OwnR C W u Pr.besideLL)=>kZ v u _ _ W h.reads h2.reads (rc ik fF) m5 (by omega) (by simp[Pr.besideLL]));have hJ3:=iy (cE au ag) Pr.besideLL;have hJ4:Pr.besideLL.length=2:=rfl;have HW:=aa (fun (B:Nat) v W (h:OwnR B W v (cE (cE au ag) Pr.besideLL))=>dQ v _ W h.reads (by omega));have HK:=aa (fun q W (h:Below w.heap.size w W) (hq:Asks W q (Pr.wrong 2))=>k6 2 s (.func (.func 194) #[] #[]) q W (hT.below h) hs (lE W) hq);have HWR:=aa Av;have eg:Hid (∀ args W,(callFunc 195 args).run Tryz.prog W=.ok (.enter 195 args) W):=enters_of Tryz.func195 (by kernel_rfl) rfl;obtain⟨r,hr⟩:=ac (Pr.prepL 2 s.data.toList);have hv:=eo (a:=r.1) (n:=r.2) hr;obtain⟨a,ha⟩:=ac (⟨r.1.toArray⟩:ByteArray);rw[ha] at hv;obtain⟨n,hn⟩:∃ n:Int,((r.2:Nat):Int)=n:=⟨_,rfl⟩;rw[hn] at hv;rw[hv] at HK ⊢;obtain⟨L,hL⟩:=ac (cE au ag);rw[hL] at HJ HJ2 HW HWR;obtain⟨M,hM⟩:=ac (cE L Pr.besideLL);rw[hM] at HJ2 HW HWR;clear hT hs hr hv ha hn hL hM hJ2 hJ3 hJ4;go_enter Tryz.func158,Tryz.ntmps158;go_wp2_with fail
 refine H1.out.mono ?_;rintro e w1 ⟨v1,rfl,o1,b1⟩;have B1:=aa b1;have O1:=aa o1;obtain⟨A1,c1,rfl⟩:=o1.slice;clear o1 b1;go_wp2_with fail
 refine(H2.out w1).mono ?_;rintro e w2 ⟨v2,rfl,o2,b2⟩;have B2:=aa (B1.out.trans (b2.mono B1.out.size));have P2:=aa (O1.out.below b2);have O2:=aa o2;obtain⟨A2,c2,rfl⟩:=o2.slice;clear o2 b2;go_wp2_with fail
 refine(HJ.out _ _ _ _ w2 P2.out O2.out).mono ?_;rintro e w3 ⟨v3,rfl,o3,b3⟩;have B3:=aa (B2.out.trans (b3.mono B2.out.size));have O3:=aa o3;obtain⟨A3,c3,rfl⟩:=o3.slice;clear o3 b3;go_wp2_with fail
 refine(H3.out w3).mono ?_;rintro e w4 ⟨v4,rfl,o4,b4⟩;have B4:=aa (B3.out.trans (b4.mono B3.out.size));have P4:=aa (O3.out.below b4);have O4:=aa o4;obtain⟨A4,c4,rfl⟩:=o4.slice;clear o4 b4;go_wp2_with fail
 refine(HJ2.out _ _ _ _ w4 P4.out O4.out).mono ?_;rintro e w5 ⟨v5,rfl,o5,b5⟩;have B5:=aa (B4.out.trans (b5.mono B4.out.size));have O5:=aa o5;obtain⟨A5,c5,rfl⟩:=o5.slice;clear o5 b5;go_wp2_with fail
 refine(HW.out _ _ w5 O5.out).mono ?_;rintro e w6 ⟨v6,rfl,q6,b6⟩;have B6:=aa (B5.out.trans (b6.mono B5.out.size));have Q6:=aa q6;obtain⟨G,gb,rfl,-,-⟩:=q6;obtain⟨w7,hw7⟩:=ac (w6.alloc (.cells #[.func (.func G) #[] gb] 147));have hb7:Below w6.heap.size w6 w7:=by rw[<-hw7];exact(Below.refl _ w6).alloc (aq _) _
 have hk7:Bk w7 w6.heap.size 147 #[.func (.func G) #[] gb]:=by rw[<-hw7];exact Bk.new w6 _ _
 have hs7:w7.heap.size=w6.heap.size+1:=by rw[<-hw7,World.size_alloc]
 have B7:=aa (B6.out.trans (hb7.mono B6.out.size));have Q7:Asks w7 (.func (.func 195) #[] #[.pointer (some ⟨w6.heap.size,0,none⟩)]) (Pr.wrong 2):=by refine⟨_,_,rfl,eg.out,fun c W hW=>?_⟩;rw[<-HWR.out];exact tt w6.heap.size _ (fun c:Nat=>bO M c) w7 (Q6.out.below hb7) c W hW ((hk7.below hW (by omega)).cell 0)
 have K7:=aa (HK.out _ w7 B7.out Q7);rw[<-hw7] at K7 B7;clear b6 hb7 hk7 hs7 Q7 hw7;go_wp2_with fail
 refine K7.out.mono ?_;rintro e w8 ⟨rfl,b8⟩;have B8:=aa (B7.out.trans (b8.mono B7.out.size));clear b8;go_wp2_with fail
 go_ret2
 exact⟨rfl,B8.out⟩
structure Okw (w:World):Prop where
 tabs:Tabs w
 maxl:MaxL w
theorem Okw.below {w w':World} (h:Okw w) (hb:Below w.heap.size w w'):Okw w':=⟨h.tabs.below hb,h.maxl.below hb⟩
def bY (r:List UInt8 × Nat):Value:=.tuple #[.string ⟨r.1.toArray⟩,.int .i64 (r.2:Nat)]
theorem gr (k:Nat) (l:List UInt8):eF k l=bY (Pr.prepL k l):=rfl
theorem cF {r:List UInt8 × Nat} {a:List UInt8} {n:Nat} (h:r=(a,n)):bY r=.tuple #[.string ⟨a.toArray⟩,.int .i64 (n:Nat)]:=by rw[h];rfl
theorem sA (c:UInt8) (l:List UInt8):Lib.cut l [c]=Jd.cutB c l:=by
 rcases yS c l with ⟨h1,h2⟩|⟨p,r,h1,h2,h3⟩
 ·rw[h1,Jd.cutB_none (fun e=>h2 c e rfl)]
 ·rw[h3,h1,Jd.cutB_some (fun e=>h2 c e rfl)]
def ia (c:List UInt8 × List UInt8 × Bool):Value:=.tuple #[.string ⟨c.1.toArray⟩,.string ⟨c.2.1.toArray⟩,.bool c.2.2]
theorem oD (c:UInt8) (s:ByteArray) (w:World) (hM:MaxL w) (hs:s.size<=1000000000):
 Calls Tryz.prog 152 #[.string s,.string ⟨#[c]⟩] w fun e w'=>e=.returned (ia (Jd.cutB c s.data.toList))/\Below w.heap.size w w':=by
 obtain⟨m,hm⟩:=hM;refine(Tryz.strings_Cut s ⟨#[c]⟩ m w (by omega) hm).mono ?_;rintro e w' ⟨rfl,n,rfl⟩;refine⟨?_,mN w n⟩;rw[show (⟨#[c]⟩:ByteArray).data.toList=[c] from rfl,sA];rfl
theorem gJ (s:ByteArray) (w:World) (hM:MaxL w) (hs:s.size<=1000000000):
 Calls Tryz.prog 109 #[.string s] w fun e w'=>e=.returned (ia (Jd.halfL s.data.toList))/\Below w.heap.size w w':=by
 have HC:=aa (oD 64 s w hM hs);rcases Jd.cutB_cases 64 s.data.toList with ⟨h1,h2⟩|⟨p,r,h1,h2,h3⟩
 ·rw[Jd.half_none h2];rw[h1] at HC;unfold ia at HC ⊢;simp only at HC ⊢;have et:(⟨s.data.toList.toArray⟩:ByteArray)=s:=rfl;rw[et] at HC ⊢;clear h1 h2 et hM;go_enter Tryz.func109,Tryz.ntmps109;(go_wp2_with fail);refine HC.out.mono ?_;rintro e w1 ⟨rfl,b1⟩;(go_wp2_with fail);go_ret3
  exact⟨rfl,b1⟩
 ·rw[h1,Jd.half_some h2];rw[h3] at HC;unfold ia at HC ⊢;simp only at HC ⊢;obtain⟨P,hP⟩:∃ P:ByteArray,⟨p.toArray⟩=P:=⟨_,rfl⟩;obtain⟨R,hR⟩:∃ R:ByteArray,⟨r.toArray⟩=R:=⟨_,rfl⟩;rw[hP,hR] at HC ⊢;clear h1 h2 h3 hP hR hM;go_enter Tryz.func109,Tryz.ntmps109;(go_wp2_with fail);refine HC.out.mono ?_;rintro e w1 ⟨rfl,b1⟩;(go_wp2_with fail);go_ret3
  exact⟨rfl,b1⟩
theorem rB (c:UInt8) (l:List UInt8):Lib.hasPrefix l [c]=(l.head?==some c):=by
 cases l with
 |nil=>rfl
 | cons a t=>
   unfold Lib.hasPrefix;show (c==a&&true)=(some a==some c);by_cases h:c=a
   ·subst h;simp
   ·have h2:¬ a=c:=(fun e=>h e.symm);have h3:(c==a)=false:=(by simpa using h);rw[h3];simp[h2]
theorem lM (c:UInt8) (l:List UInt8):Lib.hasSuffix l [c]=(l.getLast?==some c):=by
 unfold Lib.hasSuffix;rw[Bool.eq_iff_iff,List.isSuffixOf_iff_suffix];constructor
 ·rintro ⟨t,rfl⟩;simp
 ·intro h;have h2:l.getLast?=some c:=(by simpa using h);rcases List.eq_nil_or_concat l with rfl|⟨t,x,rfl⟩
  ·simp at h2
  ·simp at h2;subst h2;exact⟨t,by simp⟩
theorem yx (l:List UInt8):Lib.trimSuffix l [46]=Jd.trimD l:=by
 unfold Lib.trimSuffix Jd.trimD;rw[lM];by_cases h:l.getLast?=some 46
 ·rw[if_pos h,if_pos (by rw[h];rfl),List.dropLast_eq_take];rfl
 ·rw[if_neg h,if_neg (by simpa using h)]
theorem zQ (l:List UInt8):Jd.badB l=(l.isEmpty||Lib.hasPrefix l [45]||Lib.hasSuffix l [45]):=by
 unfold Jd.badB;rw[rB,lM];cases l with
 |nil=>rfl
 |cons a t=>simp[List.getLast?_cons]
theorem ix (s:ByteArray):s.toList.isEmpty=s.data.toList.isEmpty:=by have e:(⟨s.data⟩:ByteArray).toList=s.data.toList:=ByteArray.toList_mk _;rw[<-e]
theorem vG (s:ByteArray) (w:World) (hs:s.size<=1000000000):
 Calls Tryz.prog 121 #[.string s] w fun e w'=>e=.returned (.bool (Jd.badB s.data.toList))/\w'=w:=by
 have H1:=fun (W:World)=>Tryz.strings_HasPrefix s ⟨#[45]⟩ W
 have H2:=fun (W:World)=>Tryz.strings_HasSuffix s ⟨#[45]⟩ W (by omega)
 rw[show (⟨#[45]⟩:ByteArray).data.toList=[45] from rfl] at H1 H2;rw[zQ,<-ix];obtain⟨p,hp⟩:=ac (Lib.hasPrefix s.data.toList [45]);obtain⟨q,hq⟩:=ac (Lib.hasSuffix s.data.toList [45]);rw[hp] at H1 ⊢;rw[hq] at H2 ⊢;have HO1:=aa H1;have HO2:=aa H2;clear H1 H2 hp hq;cases he:s.toList.isEmpty with
 | true=>go_enter Tryz.func121,Tryz.ntmps121;(go_wp2_with fail);go_ret;exact⟨rfl,rfl⟩
 | false=>
   cases p with
   | true=>go_enter Tryz.func121,Tryz.ntmps121;(go_wp2_with fail);refine(HO1.out _).mono ?_;rintro e w1 ⟨rfl,rfl⟩;(go_wp2_with fail);go_ret;exact⟨rfl,rfl⟩
   | false=>go_enter Tryz.func121,Tryz.ntmps121;(go_wp2_with fail);refine(HO1.out _).mono ?_;rintro e w1 ⟨rfl,rfl⟩;(go_wp2_with fail);refine(HO2.out _).mono ?_;rintro e w2 ⟨rfl,rfl⟩;(go_wp2_with fail);go_ret;exact⟨rfl,rfl⟩
def fx (w:World) (v:Value) (f:List UInt8->List UInt8 × Nat):Prop:=∃ (F:FuncId) (cb:Array Value),v=.func (.func F) #[] cb/\(∀ args W,(callFunc F args).run Tryz.prog W=.ok (.enter F args) W) /\
 ∀ (s:ByteArray) W,Below w.heap.size w W->s.size<=100000000->Calls Tryz.prog F (#[.string s]++cb) W fun e w'=>e=.returned (bY (f s.data.toList))/\Below W.heap.size W w'
theorem iz {w:World} (F:FuncId) (f:List UInt8->List UInt8 × Nat) (hO:Okw w) (eg:∀ args W,(callFunc F args).run Tryz.prog W=.ok (.enter F args) W)
 (h:∀ (s:ByteArray) W,Okw W->s.size<=100000000->Calls Tryz.prog F #[.string s] W fun e w'=>e=.returned (bY (f s.data.toList))/\Below W.heap.size W w'):fx w (.func (.func F) #[] #[]) f:=
 ⟨F,#[],rfl,eg,fun s W hW hs=>h s W (hO.below hW) hs⟩
theorem rp {w:World} (hO:Okw w):fx w (.func (.func 164) #[] #[]) (Pr.prepL 1):=iz _ _ hO (enters_of Tryz.func164 (by kernel_rfl) rfl) fun s W hW hs=>pk s W hW.tabs (by omega)
theorem lm {w:World} (hO:Okw w):fx w (.func (.func 186) #[] #[]) (Pr.prepL 3):=iz _ _ hO (enters_of Tryz.func186 (by kernel_rfl) rfl) fun s W hW hs=>nC s W hW.tabs (by omega)
theorem tB (s:ByteArray) (w:World) (hO:Okw w) (hs:s.size<=100000000):
 Calls Tryz.prog 118 #[.string s] w fun e w'=>e=.returned (bY (Jd.hostL s.data.toList))/\Below w.heap.size w w':=by
 have HH:=aa (wJ s w hO.tabs (by omega));have hl:=Pr.prepL_len 2 s.data.toList;have hsz:=bS s;obtain⟨r,hr⟩:=ac (Pr.prepL 2 s.data.toList);have hV:Jd.hostL s.data.toList=(Jd.trimD r.1,r.2):=by unfold Jd.hostL;rw[hr]
 rw[gr,hr] at HH;rw[hr] at hl;rw[hV];obtain⟨a,ha⟩:∃ a:ByteArray,⟨r.1.toArray⟩=a:=⟨_,rfl⟩;have hd:a.data.toList=r.1:=by rw[<-ha]
 have hasz:a.size=r.1.length:=by rw[bS,hd]
 have HT:=fun (W:World)=>Tryz.strings_TrimSuffix a ⟨#[46]⟩ W (by omega)
 rw[show (⟨#[46]⟩:ByteArray).data.toList=[46] from rfl,hd,yx] at HT;obtain⟨b,hb⟩:∃ b:ByteArray,⟨(Jd.trimD r.1).toArray⟩=b:=⟨_,rfl⟩;unfold bY at HH ⊢;simp only at HH ⊢;rw[ha] at HH;rw[hb] at HT ⊢;obtain⟨n,hn⟩:∃ n:Int,((r.2:Nat):Int)=n:=⟨_,rfl⟩;rw[hn] at HH ⊢;have HO1:=aa HT;clear HT hV hl hsz hr ha hd hasz hb hn hO;go_enter Tryz.func118,Tryz.ntmps118;go_wp2_with fail
 refine HH.out.mono ?_;rintro e w1 ⟨rfl,b1⟩;go_wp2_with fail
 refine(HO1.out _).mono ?_;rintro e w2 ⟨rfl,rfl⟩;go_wp2_with fail
 go_ret2
 exact⟨rfl,b1⟩
theorem qX {w:World} (hO:Okw w):fx w (.func (.func 118) #[] #[]) Jd.hostL:=iz _ _ hO (enters_of Tryz.func118 (by kernel_rfl) rfl) fun s W hW hs=>tB s W hW hs
theorem bf {a:ByteArray} (h:a.data.toList≠[]):a.toList.isEmpty=false:=by
 rw[ix];cases e:a.data.toList with
 |nil=>exact absurd e h
 |cons x t=>rfl
theorem rY (b1 b2:Nat) (v:Value) (most:Nat) (M:Int) (hM:M=(most:Int)) (f:List UInt8->List UInt8 × Nat) (w0:World) (hq:fx w0 v f) (s:ByteArray) (W:World) (hW:Below w0.heap.size w0 W) (h1:W.cell? ⟨b1,0,none⟩=some v)
 (h2:∀ w',Below W.heap.size W w'->w'.cell? ⟨b2,0,none⟩=some (.int .i64 M)) (hs:s.size<=100000000):
 Calls Tryz.prog 157 (#[.string s]++#[.pointer (some ⟨b1,0,none⟩),.pointer (some ⟨b2,0,none⟩)]) W fun e w'=>e=.returned (bY (Jd.sizedL most (f s.data.toList)))/\Below W.heap.size W w':=by
 obtain⟨F,cb,rfl,eg,hq⟩:=hq;have HQ:=aa (hq s W hW hs);clear hq;obtain⟨r,hr⟩:=ac (f s.data.toList);rw[hr] at HQ ⊢;have H2:=aa h2;clear hr h2;by_cases h0:r.2=0
 ·by_cases hc:r.1=[]
  ·have e1:r=([],0):=Prod.ext hc h0;have e2:Jd.sizedL most r=([],14):=(by unfold Jd.sizedL;rw[if_pos h0,if_pos (.inl hc)]);rw[cF e1] at HQ;rw[cF e2];clear e1 e2 hc h0;go_enter Tryz.func157,Tryz.ntmps157;(go_wp2_with fail);refine HQ.out.mono ?_;rintro e w1 ⟨rfl,bb⟩;(go_wp2_with fail);go_ret2
   exact⟨rfl,bb⟩
  ·have e1:r=(r.1,0):=Prod.ext rfl h0;obtain⟨a,ha⟩:∃ a:ByteArray,⟨r.1.toArray⟩=a:=⟨_,rfl⟩;have hd:a.data.toList=r.1:=(by rw[<-ha]);have hasz:a.size=r.1.length:=(by rw[bS,hd]);have hne:a.toList.isEmpty=false:=bf (by rw[hd];exact hc);rw[cF e1,ha] at HQ;by_cases hm:most<r.1.length
   ·have e2:Jd.sizedL most r=([],14):=(by unfold Jd.sizedL;rw[if_pos h0,if_pos (.inr hm)]);rw[cF e2];have hlt:M<(a.size:Int):=(by rw[hasz,hM];omega);have hltB:decide (M<(a.size:Int))=true:=bq hlt;have hltG:decide ((a.size:Int) > M)=true:=bq hlt;clear e1 e2 hc h0 hm hd hasz ha hM;go_enter Tryz.func157,Tryz.ntmps157;(go_wp2_with fail);refine HQ.out.mono ?_;rintro e w1 ⟨rfl,bb⟩;have c2:=H2.out w1 bb;(go_wp2_with fail);go_ret2
    exact⟨rfl,bb⟩
   ·have e2:Jd.sizedL most r=(r.1,0):=(by rw[Jd.sizedL,if_pos h0,if_neg (by rintro (h|h);exact hc h;exact hm h)];exact e1);rw[cF e2,ha];have hlt:¬ M<(a.size:Int):=(by rw[hasz,hM];omega);have hltB:decide (M<(a.size:Int))=false:=bF hlt;have hltG:decide ((a.size:Int) > M)=false:=bF hlt;clear e1 e2 hc h0 hm hd hasz ha hM;go_enter Tryz.func157,Tryz.ntmps157;(go_wp2_with fail);refine HQ.out.mono ?_;rintro e w1 ⟨rfl,bb⟩;have c2:=H2.out w1 bb;(go_wp2_with fail);go_ret2
    exact⟨rfl,bb⟩
 ·have e2:Jd.sizedL most r=([],r.2):=(by unfold Jd.sizedL;rw[if_neg h0]);rw[cF e2];unfold bY at HQ;obtain⟨a,ha⟩:∃ a:ByteArray,⟨r.1.toArray⟩=a:=⟨_,rfl⟩;obtain⟨n,hn⟩:∃ n:Int,((r.2:Nat):Int)=n:=⟨_,rfl⟩;rw[ha,hn] at HQ;rw[hn];have hn0:n≠0:=(by omega);have hnB:(n != 0)=true:=(by simpa using hn0);clear e2 h0 ha hn;go_enter Tryz.func157,Tryz.ntmps157;(go_wp2_with fail);refine HQ.out.mono ?_;rintro e w1 ⟨rfl,bb⟩;(go_wp2_with fail);go_ret2
  exact⟨rfl,bb⟩
theorem jj (v:Value) (most:Nat) (M:Int) (hM:M=(most:Int)) (f:List UInt8->List UInt8 × Nat) (w:World) (hq:fx w v f):
 Calls Tryz.prog 117 #[v,.int .i64 M] w fun e w'=>∃ u,e=.returned u/\fx w' u (fun s=>Jd.sizedL most (f s))/\Below w.heap.size w w':=by
 have eg:∀ args w,(callFunc 157 args).run Tryz.prog w=.ok (.enter 157 args) w:=enters_of Tryz.func157 (by kernel_rfl) rfl;obtain⟨w2,hw2⟩:=ac ((w.alloc (.cells #[v] 73)).alloc (.cells #[.int .i64 M] 3));have hb:Below w.heap.size w w2:=by rw[<-hw2];exact((Below.refl _ w).alloc (aq _) _).alloc (by simp) _
 have hs2:w2.heap.size=w.heap.size+1+1:=by rw[<-hw2];simp
 have k1:Bk w2 w.heap.size 73 #[v]:=by rw[<-hw2];exact(Bk.new w _ _).alloc _
 have k2:Bk w2 (w.heap.size+1) 3 #[.int .i64 M]:=by rw[<-hw2];exact Bk.new1 w _ _ _
 have HK:Hid (fx w2 (.func (.func 157) #[] #[.pointer (some ⟨w.heap.size,0,none⟩),.pointer (some ⟨w.heap.size+1,0,none⟩)]) (fun s=>Jd.sizedL most (f s))):=by refine⟨_,_,rfl,eg,fun s W hW hs=>?_⟩;have hsW:=hW.size;refine rY w.heap.size (w.heap.size+1) v most M hM f w hq s W (hb.trans (hW.mono (by omega))) ((k1.below hW (by omega)).cell 0) ?_ hs;intro w' hb';exact((k2.below hW (by omega)).below hb' (by omega)).cell 0
 have hB:=aa hb;obtain⟨F,cb,rfl,-,-⟩:=hq;rw[<-hw2] at HK hB;clear k1 k2 hs2 hb hw2 eg hM;go_enter Tryz.func117,Tryz.ntmps117;go_wp2_with fail
 go_ret;exact⟨_,rfl,HK.out,hB.out⟩
end
end Go.Proofs.YtbgaglcgennhiaaGreatDoor


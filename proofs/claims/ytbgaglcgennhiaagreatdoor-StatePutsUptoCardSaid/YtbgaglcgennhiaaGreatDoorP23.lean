import Derived.Test.YtbgaglcgennhiaaGreatDoorP22
namespace Go.Proofs.YtbgaglcgennhiaaGreatDoor
open Go.RowKit Rg Tx
theorem Jd.cutB_false {c:UInt8} {l:List UInt8} (h:(Jd.cutB c l).2.2=false):Jd.cutB c l=(l,[],false):=by
 rcases Jd.cutB_cases c l with ⟨h1,_⟩ | ⟨p,r,_,_,h3⟩
 · exact h1
 · rw[h3] at h;cases h
theorem Jd.three_D {D N R:List UInt8 × Nat} (h:D.2≠0):Jd.three D N R=(Jd.none_,D.2):=by unfold Jd.three;rw[if_pos h]
theorem Jd.three_N {D N R:List UInt8 × Nat} (h:D.2=0) (h2:N.2≠0):Jd.three D N R=(Jd.none_,N.2):=by unfold Jd.three;rw[if_neg (by simp[h]),if_pos h2]
theorem Jd.three_R {D N R:List UInt8 × Nat} (h:D.2=0) (h2:N.2=0) (h3:R.2≠0):Jd.three D N R=(Jd.none_,R.2):=by unfold Jd.three;rw[if_neg (by simp[h]),if_neg (by simp[h2]),if_pos h3]
theorem Jd.three_K {D N R:List UInt8 × Nat} (h:D.2=0) (h2:N.2=0) (h3:R.2=0):Jd.three D N R=((N.1,D.1,R.1),0):=by unfold Jd.three;rw[if_neg (by simp[h]),if_neg (by simp[h2]),if_neg (by simp[h3])]
theorem e6 {m:Nat} {r:List UInt8 × Nat} (h:r.2≠0):Jd.sizedL m r=([],r.2):=by unfold Jd.sizedL;rw[if_neg h]
theorem cW {m:Nat} {r:List UInt8 × Nat} (h:r.2=0) (h2:r.1=[]∨m < r.1.length):Jd.sizedL m r=([],14):=by unfold Jd.sizedL;rw[if_pos h,if_pos h2]
theorem eO {m:Nat} {r:List UInt8 × Nat} (h:r.2=0) (h1:r.1≠[]) (h2:r.1.length≤m):Jd.sizedL m r=r:=by unfold Jd.sizedL;rw[if_pos h,if_neg (by rintro (h3 | h3);exact h1 h3;omega)]
theorem iy {r:List UInt8 × Nat} (h:r.2=0):bM r=.tuple #[.string (aR r.1),.int .i64 0]:=by rw[bT (show r=(r.1,0) from Prod.ext rfl h)];rfl
theorem dI (r:List UInt8 × Nat):bM r=.tuple #[.string (aR r.1),.int .i64 (r.2:Nat)]:=rfl
theorem aN (n:Nat):bs (Jd.none_,n)=.tuple #[.agg #[.string ⟨#[]⟩,.string ⟨#[]⟩,.string ⟨#[]⟩],.int .i64 (n:Nat)]:=rfl
theorem bO {w w1:World} {q:Nat} {a b c:Value} (x y z:Value) (hk:Bk w1 q 115 #[a,b,c]) (hb:Below q w w1) :
 Bk (((w1.setCell ⟨q,0,none⟩ x).setCell ⟨q,1,none⟩ y).setCell ⟨q,2,none⟩ z) q 115 #[x,y,z]∧Below q w (((w1.setCell ⟨q,0,none⟩ x).setCell ⟨q,1,none⟩ y).setCell ⟨q,2,none⟩ z) :=
 ⟨((hk.put 0 x).put 1 y).put 2 z,Below.setCell (B:=q) (p:=⟨q,2,none⟩) (Below.setCell (B:=q) (p:=⟨q,1,none⟩) (Below.setCell (B:=q) (p:=⟨q,0,none⟩) hb (Nat.le_refl q) _) (Nat.le_refl q) _) (Nat.le_refl q) _⟩
theorem fg (k:Nat):Pr.prepL k []=([],0):=Jd.prep_nil k
theorem fS:bM ([],0)=.tuple #[.string ⟨#[]⟩,.int .i64 0]:=rfl
set_option maxHeartbeats 16000000 in
theorem po (s:ByteArray) (w:World) (hs:s.size≤10000000) :
 Calls Tryz.prog 101 #[.string s] w fun e w'=>e=.returned (bs (Jd.parseL s.data.toList))∧Below w.heap.size w w':=by
 have hsz:=Lib.size_eq s;have hl1:=Jd.cutB_len 47 s.data.toList;have HC:=Lib.hid (fun W=>jg 47 47 rfl s W (by omega));have hf1:=Jd.cutB_false (c:=47) (l:=s.data.toList)
 obtain⟨c,hc⟩:∃ c,Jd.cutB 47 s.data.toList=c:=⟨_,rfl⟩
 rw[hc] at hl1 HC hf1;have hl2:=Jd.cutB_len 64 c.1;have hl3:=Jd.half_len c.1;have HH:=Lib.hid (fun W=>jg 64 64 rfl (aR c.1) W (by rw[bQ];omega));rw[gp] at HH;have hf2:=Jd.cutB_false (c:=64) (l:=c.1);have hhalf:=tL c.1
 obtain⟨d,hd⟩:∃ d,Jd.cutB 64 c.1=d:=⟨_,rfl⟩
 rw[hd] at hl2 HH hf2 hhalf;have hP:Jd.parseL s.data.toList=Jd.three (Jd.domL (Jd.halfL c.1).2.1) (Jd.part (Jd.halfL c.1).2.2 1 (Jd.halfL c.1).1) (Jd.part c.2.2 3 c.2.1):=by
  unfold Jd.parseL;rw[hc]
 obtain⟨h,hh⟩:∃ h,Jd.halfL c.1=h:=⟨_,rfl⟩
 rw[hh] at hl3 hhalf hP;have HD:=Lib.hid (fun W=>mh (aR h.2.1) W (by rw[bQ];omega));have HN:=Lib.hid (fun W=>qo (aR h.1) W (by rw[bQ];omega));have HR:=Lib.hid (fun W=>kc (aR c.2.1) W (by rw[bQ];omega));rw[gp] at HD HN HR;rw[fe] at HN HR;rw[cM] at HC HH;clear hsz hl1 hl2 hl3 hc hd hs;rw[hP];clear hP
 obtain⟨D,hD⟩:∃ D,Jd.domL h.2.1=D:=⟨_,rfl⟩
 rw[hD] at HD ⊢;clear hD
 obtain⟨w0,hw0⟩:∃ w0,w.alloc (.cells #[.string ⟨#[]⟩,.string ⟨#[]⟩,.string ⟨#[]⟩] 115)=w0:=⟨_,rfl⟩
 have k0:Bk w0 w.heap.size 115 #[.string ⟨#[]⟩,.string ⟨#[]⟩,.string ⟨#[]⟩]:=by rw[← hw0];exact Bk.new w _ _
 have B0:Hid (Below w.heap.size w w0):=by unfold Hid;rw[← hw0];exact(Below.refl _ w).alloc (Nat.le_refl _) _
 obtain⟨q,hq⟩:∃ q,w.heap.size=q:=⟨_,rfl⟩
 rw[hq] at k0;have K0:=Lib.hid k0;have HQ:=Lib.hid hq;clear k0;cases hb2:d.2.2<;>cases hb1:c.2.2
 · have hc22:=Lib.hid hb1
   rw[hb1] at HC;rw[hb2] at HH;have hce:c.2.1=[]:=by rw[hf1 hb1]
   rw[hce,fg,fS,show aR []=⟨#[]⟩ from rfl] at HR;rw[hce,show aR []=⟨#[]⟩ from rfl] at HC;have he:h=([],c.1,false):=by rw[hhalf,hb2];rfl
   have hh22:Hid (h.2.2=false):=by unfold Hid;rw[he]
   have hde:d=(c.1,[],false):=hf2 hb2;rw[hde] at HH;have he1:aR h.1=⟨#[]⟩:=by rw[he]
   have he2:aR h.2.1=aR c.1:=by rw[he]
   have he3:h.1=[]:=by rw[he]
   rw[he1,he3,fg,fS] at HN;rw[he2] at HD;simp only at HH;rw[show aR []=⟨#[]⟩ from rfl] at HH;clear hde he1 he2 he3;clear he hf1 hf2 hhalf hh hb1 hb2 hce
   obtain⟨x1,hx1⟩:∃ x,aR c.1=x:=⟨_,rfl⟩
   rw[hx1] at HC HH HD;clear hx1;go_enter Tryz.func101,Tryz.ntmps101
   go_wp2_with fail
   refine(HC.out w0).mono ?_
   rintro e w1 ⟨rfl,b1⟩;have B1:=Lib.hid (B0.out.trans (b1.mono B0.out.size));have K1:=Lib.hid (K0.out.below b1 K0.out.lt);clear b1
   go_wp2_with fail
   refine(HH.out w1).mono ?_
   rintro e w2 ⟨rfl,b2⟩;have B2:=Lib.hid (B1.out.trans (b2.mono B1.out.size));have K2:=Lib.hid (K1.out.below b2 K1.out.lt);clear b2
   go_wp2_with fail
   refine(HD.out w2).mono ?_
   rintro e w3 ⟨rfl,b3⟩;have B3:=Lib.hid (B2.out.trans (b3.mono B2.out.size));have K3:=Lib.hid (K2.out.below b3 K2.out.lt);clear b3
   by_cases h0:D.2=0
   · have hD0:=Lib.hid h0
     rw[iy h0]
     obtain⟨yd,hyd0⟩:∃ y,aR D.1=y:=⟨_,rfl⟩
     rw[hyd0];have hyd:=Lib.hid hyd0;clear h0 hyd0
     go_wp2_with fail
     refine(HN.out w3).mono ?_
     rintro e w4 ⟨rfl,b4⟩;have B4:=Lib.hid (B3.out.trans (b4.mono B3.out.size));have K4:=Lib.hid (K3.out.below b4 K3.out.lt);clear b4;have hN0:Hid ((Jd.part h.2.2 1 h.1).2=0):=by unfold Hid;rw[hh22.out];rfl
     have hN1:Hid (aR (Jd.part h.2.2 1 h.1).1=⟨#[]⟩):=by unfold Hid;rw[hh22.out];rfl
     go_wp2_with fail
     refine(HR.out w4).mono ?_
     rintro e w5 ⟨rfl,b5⟩;have B5:=Lib.hid (B4.out.trans (b5.mono B4.out.size));have K5:=Lib.hid (K4.out.below b5 K4.out.lt);clear b5;have hR0:Hid ((Jd.part false 3 c.2.1).2=0):=rfl;have hR1:Hid (aR (Jd.part false 3 c.2.1).1=⟨#[]⟩):=rfl;have HF:Hid (bs (Jd.three D (Jd.part h.2.2 1 h.1) (Jd.part false 3 c.2.1))=.tuple #[.agg #[.string ⟨#[]⟩,.string yd,.string ⟨#[]⟩],.int .i64 0]):=by
      unfold Hid;rw[Jd.three_K hD0.out hN0.out hR0.out,dN];simp only;rw[hN1.out,hR1.out,hyd.out];rfl
     have e0:w5.cell? ⟨q,0,none⟩=some (.string ⟨#[]⟩):=K5.out.cell 0;have f0:w5.frozen? ⟨q,0,none⟩=false:=K5.out.free 0;have e1:w5.cell? ⟨q,1,none⟩=some (.string ⟨#[]⟩):=K5.out.cell 1;have f1:w5.frozen? ⟨q,1,none⟩=false:=K5.out.free 1;have e2:w5.cell? ⟨q,2,none⟩=some (.string ⟨#[]⟩):=K5.out.cell 2;have f2:w5.frozen? ⟨q,2,none⟩=false:=K5.out.free 2
     go_wp2_with fail
     have hst:=bO (w:=w) (.string ⟨#[]⟩) (.string yd) (.string ⟨#[]⟩) K5.out (show Below q w w5 from by have h:=B5.out;rw[HQ.out] at h;exact h);have q0:World.cell? (((w5.setCell ⟨q,0,none⟩ (.string ⟨#[]⟩)).setCell ⟨q,1,none⟩ (.string yd)).setCell ⟨q,2,none⟩ (.string ⟨#[]⟩)) ⟨q,0,none⟩=some (.string ⟨#[]⟩):=hst.1.cell 0;have q1:World.cell? (((w5.setCell ⟨q,0,none⟩ (.string ⟨#[]⟩)).setCell ⟨q,1,none⟩ (.string yd)).setCell ⟨q,2,none⟩ (.string ⟨#[]⟩)) ⟨q,1,none⟩=some (.string yd):=hst.1.cell 1;have q2:World.cell? (((w5.setCell ⟨q,0,none⟩ (.string ⟨#[]⟩)).setCell ⟨q,1,none⟩ (.string yd)).setCell ⟨q,2,none⟩ (.string ⟨#[]⟩)) ⟨q,2,none⟩=some (.string ⟨#[]⟩):=hst.1.cell 2;refine bodyPost_ret (v:=.tuple #[.agg #[.string ⟨#[]⟩,.string yd,.string ⟨#[]⟩],.int .i64 0]) (by simp[results,Tryz.results101,go_sem,q0,q1,q2]) rfl ⟨(congrArg Ending.returned HF.out).symm,by rw[HQ.out];exact hst.2⟩
   · obtain⟨z,hz⟩:∃ z:Int,((D.2:Nat):Int)=z:=⟨_,rfl⟩
     have HF:Hid (bs (Jd.three D (Jd.part h.2.2 1 h.1) (Jd.part false 3 c.2.1))=.tuple #[.agg #[.string ⟨#[]⟩,.string ⟨#[]⟩,.string ⟨#[]⟩],.int .i64 z]):=by unfold Hid;rw[Jd.three_D h0,aN,hz]
     have hz0:z≠0:=by omega
     have hzB:(z != 0)=true:=by simpa using hz0
     rw[dI,hz]
     obtain⟨yE,hyE⟩:∃ y,aR D.1=y:=⟨_,rfl⟩
     rw[hyE];clear h0 hz hyE;have e0:w3.cell? ⟨q,0,none⟩=some (.string ⟨#[]⟩):=K3.out.cell 0;have f0:w3.frozen? ⟨q,0,none⟩=false:=K3.out.free 0;have e1:w3.cell? ⟨q,1,none⟩=some (.string ⟨#[]⟩):=K3.out.cell 1;have f1:w3.frozen? ⟨q,1,none⟩=false:=K3.out.free 1;have e2:w3.cell? ⟨q,2,none⟩=some (.string ⟨#[]⟩):=K3.out.cell 2;have f2:w3.frozen? ⟨q,2,none⟩=false:=K3.out.free 2
     go_wp2_with fail
     have hst:=bO (w:=w) (.string ⟨#[]⟩) (.string ⟨#[]⟩) (.string ⟨#[]⟩) K3.out (show Below q w w3 from by have h:=B3.out;rw[HQ.out] at h;exact h);have q0:World.cell? (((w3.setCell ⟨q,0,none⟩ (.string ⟨#[]⟩)).setCell ⟨q,1,none⟩ (.string ⟨#[]⟩)).setCell ⟨q,2,none⟩ (.string ⟨#[]⟩)) ⟨q,0,none⟩=some (.string ⟨#[]⟩):=hst.1.cell 0;have q1:World.cell? (((w3.setCell ⟨q,0,none⟩ (.string ⟨#[]⟩)).setCell ⟨q,1,none⟩ (.string ⟨#[]⟩)).setCell ⟨q,2,none⟩ (.string ⟨#[]⟩)) ⟨q,1,none⟩=some (.string ⟨#[]⟩):=hst.1.cell 1;have q2:World.cell? (((w3.setCell ⟨q,0,none⟩ (.string ⟨#[]⟩)).setCell ⟨q,1,none⟩ (.string ⟨#[]⟩)).setCell ⟨q,2,none⟩ (.string ⟨#[]⟩)) ⟨q,2,none⟩=some (.string ⟨#[]⟩):=hst.1.cell 2;refine bodyPost_ret (v:=.tuple #[.agg #[.string ⟨#[]⟩,.string ⟨#[]⟩,.string ⟨#[]⟩],.int .i64 z]) (by simp[results,Tryz.results101,go_sem,q0,q1,q2]) rfl ⟨(congrArg Ending.returned HF.out).symm,by rw[HQ.out];exact hst.2⟩
 · have hc22:=Lib.hid hb1
   rw[dI] at HR;rw[hb1] at HC;rw[hb2] at HH;have he:h=([],c.1,false):=by rw[hhalf,hb2];rfl
   have hh22:Hid (h.2.2=false):=by unfold Hid;rw[he]
   have hde:d=(c.1,[],false):=hf2 hb2;rw[hde] at HH;have he1:aR h.1=⟨#[]⟩:=by rw[he]
   have he2:aR h.2.1=aR c.1:=by rw[he]
   have he3:h.1=[]:=by rw[he]
   rw[he1,he3,fg,fS] at HN;rw[he2] at HD;simp only at HH;rw[show aR []=⟨#[]⟩ from rfl] at HH;clear hde he1 he2 he3;clear he hf1 hf2 hhalf hh hb1 hb2
   obtain⟨x1,hx1⟩:∃ x,aR c.1=x:=⟨_,rfl⟩
   rw[hx1] at HC HH HD
   obtain⟨x2,hx2⟩:∃ x,aR c.2.1=x:=⟨_,rfl⟩
   rw[hx2] at HC HR;clear hx1 hx2;go_enter Tryz.func101,Tryz.ntmps101
   go_wp2_with fail
   refine(HC.out w0).mono ?_
   rintro e w1 ⟨rfl,b1⟩;have B1:=Lib.hid (B0.out.trans (b1.mono B0.out.size));have K1:=Lib.hid (K0.out.below b1 K0.out.lt);clear b1
   go_wp2_with fail
   refine(HH.out w1).mono ?_
   rintro e w2 ⟨rfl,b2⟩;have B2:=Lib.hid (B1.out.trans (b2.mono B1.out.size));have K2:=Lib.hid (K1.out.below b2 K1.out.lt);clear b2
   go_wp2_with fail
   refine(HD.out w2).mono ?_
   rintro e w3 ⟨rfl,b3⟩;have B3:=Lib.hid (B2.out.trans (b3.mono B2.out.size));have K3:=Lib.hid (K2.out.below b3 K2.out.lt);clear b3
   by_cases h0:D.2=0
   · have hD0:=Lib.hid h0
     rw[iy h0]
     obtain⟨yd,hyd0⟩:∃ y,aR D.1=y:=⟨_,rfl⟩
     rw[hyd0];have hyd:=Lib.hid hyd0;clear h0 hyd0
     go_wp2_with fail
     refine(HN.out w3).mono ?_
     rintro e w4 ⟨rfl,b4⟩;have B4:=Lib.hid (B3.out.trans (b4.mono B3.out.size));have K4:=Lib.hid (K3.out.below b4 K3.out.lt);clear b4;have hN0:Hid ((Jd.part h.2.2 1 h.1).2=0):=by unfold Hid;rw[hh22.out];rfl
     have hN1:Hid (aR (Jd.part h.2.2 1 h.1).1=⟨#[]⟩):=by unfold Hid;rw[hh22.out];rfl
     go_wp2_with fail
     refine(HR.out w4).mono ?_
     rintro e w5 ⟨rfl,b5⟩;have B5:=Lib.hid (B4.out.trans (b5.mono B4.out.size));have K5:=Lib.hid (K4.out.below b5 K4.out.lt);clear b5;have hpr:Jd.part true 3 c.2.1=Jd.sizedL 64 (Pr.prepL 3 c.2.1):=rfl
     by_cases hx:(Pr.prepL 3 c.2.1).2=0
     · by_cases hy:(Pr.prepL 3 c.2.1).1=[]
       · have hsz:=cW (m:=64) hx (.inl hy)
         rw[← hpr] at hsz;have HF:Hid (bs (Jd.three D (Jd.part h.2.2 1 h.1) (Jd.part true 3 c.2.1))=.tuple #[.agg #[.string ⟨#[]⟩,.string ⟨#[]⟩,.string ⟨#[]⟩],.int .i64 14]):=by unfold Hid;rw[Jd.three_R hD0.out hN0.out (by rw[hsz];simp),aN,hsz];rfl
         have hye:aR (Pr.prepL 3 c.2.1).1=⟨#[]⟩:=by rw[hy]
         have hxe:(((Pr.prepL 3 c.2.1).2:Nat):Int)=0:=by rw[hx];rfl
         rw[hye,hxe];clear hsz hx hy hpr hye hxe;have e0:w5.cell? ⟨q,0,none⟩=some (.string ⟨#[]⟩):=K5.out.cell 0;have f0:w5.frozen? ⟨q,0,none⟩=false:=K5.out.free 0;have e1:w5.cell? ⟨q,1,none⟩=some (.string ⟨#[]⟩):=K5.out.cell 1;have f1:w5.frozen? ⟨q,1,none⟩=false:=K5.out.free 1;have e2:w5.cell? ⟨q,2,none⟩=some (.string ⟨#[]⟩):=K5.out.cell 2;have f2:w5.frozen? ⟨q,2,none⟩=false:=K5.out.free 2
         go_wp2_with fail
         have hst:=bO (w:=w) (.string ⟨#[]⟩) (.string ⟨#[]⟩) (.string ⟨#[]⟩) K5.out (show Below q w w5 from by have h:=B5.out;rw[HQ.out] at h;exact h);have q0:World.cell? (((w5.setCell ⟨q,0,none⟩ (.string ⟨#[]⟩)).setCell ⟨q,1,none⟩ (.string ⟨#[]⟩)).setCell ⟨q,2,none⟩ (.string ⟨#[]⟩)) ⟨q,0,none⟩=some (.string ⟨#[]⟩):=hst.1.cell 0;have q1:World.cell? (((w5.setCell ⟨q,0,none⟩ (.string ⟨#[]⟩)).setCell ⟨q,1,none⟩ (.string ⟨#[]⟩)).setCell ⟨q,2,none⟩ (.string ⟨#[]⟩)) ⟨q,1,none⟩=some (.string ⟨#[]⟩):=hst.1.cell 1;have q2:World.cell? (((w5.setCell ⟨q,0,none⟩ (.string ⟨#[]⟩)).setCell ⟨q,1,none⟩ (.string ⟨#[]⟩)).setCell ⟨q,2,none⟩ (.string ⟨#[]⟩)) ⟨q,2,none⟩=some (.string ⟨#[]⟩):=hst.1.cell 2;refine bodyPost_ret (v:=.tuple #[.agg #[.string ⟨#[]⟩,.string ⟨#[]⟩,.string ⟨#[]⟩],.int .i64 14]) (by simp[results,Tryz.results101,go_sem,q0,q1,q2]) rfl ⟨(congrArg Ending.returned HF.out).symm,by rw[HQ.out];exact hst.2⟩
       · obtain⟨yR,hyr⟩:∃ y,aR (Pr.prepL 3 c.2.1).1=y:=⟨_,rfl⟩
         have hys:yR.size=(Pr.prepL 3 c.2.1).1.length:=by rw[← hyr,bQ]
         have hxe:(((Pr.prepL 3 c.2.1).2:Nat):Int)=0:=by rw[hx];rfl
         have hpos:1≤yR.size:=by rw[hys];exact List.length_pos_iff.2 hy
         by_cases hm:64 < yR.size
         · have hsz:=cW (m:=64) hx (.inr (by rw[← hys];exact hm))
           rw[← hpr] at hsz;have HF:Hid (bs (Jd.three D (Jd.part h.2.2 1 h.1) (Jd.part true 3 c.2.1))=.tuple #[.agg #[.string ⟨#[]⟩,.string ⟨#[]⟩,.string ⟨#[]⟩],.int .i64 14]):=by unfold Hid;rw[Jd.three_R hD0.out hN0.out (by rw[hsz];simp),aN,hsz];rfl
           rw[hyr,hxe];clear hsz hx hy hpr hyr hxe hys;have e0:w5.cell? ⟨q,0,none⟩=some (.string ⟨#[]⟩):=K5.out.cell 0;have f0:w5.frozen? ⟨q,0,none⟩=false:=K5.out.free 0;have e1:w5.cell? ⟨q,1,none⟩=some (.string ⟨#[]⟩):=K5.out.cell 1;have f1:w5.frozen? ⟨q,1,none⟩=false:=K5.out.free 1;have e2:w5.cell? ⟨q,2,none⟩=some (.string ⟨#[]⟩):=K5.out.cell 2;have f2:w5.frozen? ⟨q,2,none⟩=false:=K5.out.free 2
           go_wp2_with fail
           have hst:=bO (w:=w) (.string ⟨#[]⟩) (.string ⟨#[]⟩) (.string ⟨#[]⟩) K5.out (show Below q w w5 from by have h:=B5.out;rw[HQ.out] at h;exact h);have q0:World.cell? (((w5.setCell ⟨q,0,none⟩ (.string ⟨#[]⟩)).setCell ⟨q,1,none⟩ (.string ⟨#[]⟩)).setCell ⟨q,2,none⟩ (.string ⟨#[]⟩)) ⟨q,0,none⟩=some (.string ⟨#[]⟩):=hst.1.cell 0;have q1:World.cell? (((w5.setCell ⟨q,0,none⟩ (.string ⟨#[]⟩)).setCell ⟨q,1,none⟩ (.string ⟨#[]⟩)).setCell ⟨q,2,none⟩ (.string ⟨#[]⟩)) ⟨q,1,none⟩=some (.string ⟨#[]⟩):=hst.1.cell 1;have q2:World.cell? (((w5.setCell ⟨q,0,none⟩ (.string ⟨#[]⟩)).setCell ⟨q,1,none⟩ (.string ⟨#[]⟩)).setCell ⟨q,2,none⟩ (.string ⟨#[]⟩)) ⟨q,2,none⟩=some (.string ⟨#[]⟩):=hst.1.cell 2;refine bodyPost_ret (v:=.tuple #[.agg #[.string ⟨#[]⟩,.string ⟨#[]⟩,.string ⟨#[]⟩],.int .i64 14]) (by simp[results,Tryz.results101,go_sem,q0,q1,q2]) rfl ⟨(congrArg Ending.returned HF.out).symm,by rw[HQ.out];exact hst.2⟩
         · have hm2:yR.size≤64:=by omega
           have hsz:=eO (m:=64) hx hy (by rw[← hys];exact hm2);rw[← hpr] at hsz;have hR0:Hid ((Jd.part true 3 c.2.1).2=0):=by unfold Hid;rw[hsz];exact hx
           have hR1:Hid (aR (Jd.part true 3 c.2.1).1=yR):=by unfold Hid;rw[hsz];exact hyr
           rw[hyr,hxe];clear hsz hx hy hpr hyr hxe hys hm;have HF:Hid (bs (Jd.three D (Jd.part h.2.2 1 h.1) (Jd.part true 3 c.2.1))=.tuple #[.agg #[.string ⟨#[]⟩,.string yd,.string yR],.int .i64 0]):=by
            unfold Hid;rw[Jd.three_K hD0.out hN0.out hR0.out,dN];simp only;rw[hN1.out,hR1.out,hyd.out];rfl
           have e0:w5.cell? ⟨q,0,none⟩=some (.string ⟨#[]⟩):=K5.out.cell 0;have f0:w5.frozen? ⟨q,0,none⟩=false:=K5.out.free 0;have e1:w5.cell? ⟨q,1,none⟩=some (.string ⟨#[]⟩):=K5.out.cell 1;have f1:w5.frozen? ⟨q,1,none⟩=false:=K5.out.free 1;have e2:w5.cell? ⟨q,2,none⟩=some (.string ⟨#[]⟩):=K5.out.cell 2;have f2:w5.frozen? ⟨q,2,none⟩=false:=K5.out.free 2
           go_wp2_with fail
           have hst:=bO (w:=w) (.string ⟨#[]⟩) (.string yd) (.string yR) K5.out (show Below q w w5 from by have h:=B5.out;rw[HQ.out] at h;exact h);have q0:World.cell? (((w5.setCell ⟨q,0,none⟩ (.string ⟨#[]⟩)).setCell ⟨q,1,none⟩ (.string yd)).setCell ⟨q,2,none⟩ (.string yR)) ⟨q,0,none⟩=some (.string ⟨#[]⟩):=hst.1.cell 0;have q1:World.cell? (((w5.setCell ⟨q,0,none⟩ (.string ⟨#[]⟩)).setCell ⟨q,1,none⟩ (.string yd)).setCell ⟨q,2,none⟩ (.string yR)) ⟨q,1,none⟩=some (.string yd):=hst.1.cell 1;have q2:World.cell? (((w5.setCell ⟨q,0,none⟩ (.string ⟨#[]⟩)).setCell ⟨q,1,none⟩ (.string yd)).setCell ⟨q,2,none⟩ (.string yR)) ⟨q,2,none⟩=some (.string yR):=hst.1.cell 2;refine bodyPost_ret (v:=.tuple #[.agg #[.string ⟨#[]⟩,.string yd,.string yR],.int .i64 0]) (by simp[results,Tryz.results101,go_sem,q0,q1,q2]) rfl ⟨(congrArg Ending.returned HF.out).symm,by rw[HQ.out];exact hst.2⟩
     · have hsz:=e6 (m:=64) hx
       rw[← hpr] at hsz
       obtain⟨z,hz⟩:∃ z:Int,(((Pr.prepL 3 c.2.1).2:Nat):Int)=z:=⟨_,rfl⟩
       have HF:Hid (bs (Jd.three D (Jd.part h.2.2 1 h.1) (Jd.part true 3 c.2.1))=.tuple #[.agg #[.string ⟨#[]⟩,.string ⟨#[]⟩,.string ⟨#[]⟩],.int .i64 z]):=by unfold Hid;rw[Jd.three_R hD0.out hN0.out (by rw[hsz];exact hx),aN,hsz,hz]
       have hz0:z≠0:=by omega
       have hzB:(z != 0)=true:=by simpa using hz0
       obtain⟨yE,hyE⟩:∃ y,aR (Pr.prepL 3 c.2.1).1=y:=⟨_,rfl⟩
       rw[hz,hyE];clear hsz hx hpr hz hyE;have e0:w5.cell? ⟨q,0,none⟩=some (.string ⟨#[]⟩):=K5.out.cell 0;have f0:w5.frozen? ⟨q,0,none⟩=false:=K5.out.free 0;have e1:w5.cell? ⟨q,1,none⟩=some (.string ⟨#[]⟩):=K5.out.cell 1;have f1:w5.frozen? ⟨q,1,none⟩=false:=K5.out.free 1;have e2:w5.cell? ⟨q,2,none⟩=some (.string ⟨#[]⟩):=K5.out.cell 2;have f2:w5.frozen? ⟨q,2,none⟩=false:=K5.out.free 2
       go_wp2_with fail
       have hst:=bO (w:=w) (.string ⟨#[]⟩) (.string ⟨#[]⟩) (.string ⟨#[]⟩) K5.out (show Below q w w5 from by have h:=B5.out;rw[HQ.out] at h;exact h);have q0:World.cell? (((w5.setCell ⟨q,0,none⟩ (.string ⟨#[]⟩)).setCell ⟨q,1,none⟩ (.string ⟨#[]⟩)).setCell ⟨q,2,none⟩ (.string ⟨#[]⟩)) ⟨q,0,none⟩=some (.string ⟨#[]⟩):=hst.1.cell 0;have q1:World.cell? (((w5.setCell ⟨q,0,none⟩ (.string ⟨#[]⟩)).setCell ⟨q,1,none⟩ (.string ⟨#[]⟩)).setCell ⟨q,2,none⟩ (.string ⟨#[]⟩)) ⟨q,1,none⟩=some (.string ⟨#[]⟩):=hst.1.cell 1;have q2:World.cell? (((w5.setCell ⟨q,0,none⟩ (.string ⟨#[]⟩)).setCell ⟨q,1,none⟩ (.string ⟨#[]⟩)).setCell ⟨q,2,none⟩ (.string ⟨#[]⟩)) ⟨q,2,none⟩=some (.string ⟨#[]⟩):=hst.1.cell 2;refine bodyPost_ret (v:=.tuple #[.agg #[.string ⟨#[]⟩,.string ⟨#[]⟩,.string ⟨#[]⟩],.int .i64 z]) (by simp[results,Tryz.results101,go_sem,q0,q1,q2]) rfl ⟨(congrArg Ending.returned HF.out).symm,by rw[HQ.out];exact hst.2⟩
   · obtain⟨z,hz⟩:∃ z:Int,((D.2:Nat):Int)=z:=⟨_,rfl⟩
     have HF:Hid (bs (Jd.three D (Jd.part h.2.2 1 h.1) (Jd.part true 3 c.2.1))=.tuple #[.agg #[.string ⟨#[]⟩,.string ⟨#[]⟩,.string ⟨#[]⟩],.int .i64 z]):=by unfold Hid;rw[Jd.three_D h0,aN,hz]
     have hz0:z≠0:=by omega
     have hzB:(z != 0)=true:=by simpa using hz0
     rw[dI,hz]
     obtain⟨yE,hyE⟩:∃ y,aR D.1=y:=⟨_,rfl⟩
     rw[hyE];clear h0 hz hyE;have e0:w3.cell? ⟨q,0,none⟩=some (.string ⟨#[]⟩):=K3.out.cell 0;have f0:w3.frozen? ⟨q,0,none⟩=false:=K3.out.free 0;have e1:w3.cell? ⟨q,1,none⟩=some (.string ⟨#[]⟩):=K3.out.cell 1;have f1:w3.frozen? ⟨q,1,none⟩=false:=K3.out.free 1;have e2:w3.cell? ⟨q,2,none⟩=some (.string ⟨#[]⟩):=K3.out.cell 2;have f2:w3.frozen? ⟨q,2,none⟩=false:=K3.out.free 2
     go_wp2_with fail
     have hst:=bO (w:=w) (.string ⟨#[]⟩) (.string ⟨#[]⟩) (.string ⟨#[]⟩) K3.out (show Below q w w3 from by have h:=B3.out;rw[HQ.out] at h;exact h);have q0:World.cell? (((w3.setCell ⟨q,0,none⟩ (.string ⟨#[]⟩)).setCell ⟨q,1,none⟩ (.string ⟨#[]⟩)).setCell ⟨q,2,none⟩ (.string ⟨#[]⟩)) ⟨q,0,none⟩=some (.string ⟨#[]⟩):=hst.1.cell 0;have q1:World.cell? (((w3.setCell ⟨q,0,none⟩ (.string ⟨#[]⟩)).setCell ⟨q,1,none⟩ (.string ⟨#[]⟩)).setCell ⟨q,2,none⟩ (.string ⟨#[]⟩)) ⟨q,1,none⟩=some (.string ⟨#[]⟩):=hst.1.cell 1;have q2:World.cell? (((w3.setCell ⟨q,0,none⟩ (.string ⟨#[]⟩)).setCell ⟨q,1,none⟩ (.string ⟨#[]⟩)).setCell ⟨q,2,none⟩ (.string ⟨#[]⟩)) ⟨q,2,none⟩=some (.string ⟨#[]⟩):=hst.1.cell 2;refine bodyPost_ret (v:=.tuple #[.agg #[.string ⟨#[]⟩,.string ⟨#[]⟩,.string ⟨#[]⟩],.int .i64 z]) (by simp[results,Tryz.results101,go_sem,q0,q1,q2]) rfl ⟨(congrArg Ending.returned HF.out).symm,by rw[HQ.out];exact hst.2⟩
 · have hc22:=Lib.hid hb1
   rw[dI] at HN;rw[hb1] at HC;rw[hb2] at HH;have hce:c.2.1=[]:=by rw[hf1 hb1]
   rw[hce,fg,fS,show aR []=⟨#[]⟩ from rfl] at HR;rw[hce,show aR []=⟨#[]⟩ from rfl] at HC;have he:h=d:=by rw[hhalf,hb2];rfl
   have hh22:Hid (h.2.2=true):=by unfold Hid;rw[he];exact hb2
   rw[← he] at HH;clear he hf1 hf2 hhalf hh hb1 hb2 hce
   obtain⟨x1,hx1⟩:∃ x,aR c.1=x:=⟨_,rfl⟩
   rw[hx1] at HC HH
   obtain⟨x3,hx3⟩:∃ x,aR h.1=x:=⟨_,rfl⟩
   obtain⟨x4,hx4⟩:∃ x,aR h.2.1=x:=⟨_,rfl⟩
   rw[hx3] at HH HN;rw[hx4] at HH HD;clear hx1 hx3 hx4;go_enter Tryz.func101,Tryz.ntmps101
   go_wp2_with fail
   refine(HC.out w0).mono ?_
   rintro e w1 ⟨rfl,b1⟩;have B1:=Lib.hid (B0.out.trans (b1.mono B0.out.size));have K1:=Lib.hid (K0.out.below b1 K0.out.lt);clear b1
   go_wp2_with fail
   refine(HH.out w1).mono ?_
   rintro e w2 ⟨rfl,b2⟩;have B2:=Lib.hid (B1.out.trans (b2.mono B1.out.size));have K2:=Lib.hid (K1.out.below b2 K1.out.lt);clear b2
   go_wp2_with fail
   refine(HD.out w2).mono ?_
   rintro e w3 ⟨rfl,b3⟩;have B3:=Lib.hid (B2.out.trans (b3.mono B2.out.size));have K3:=Lib.hid (K2.out.below b3 K2.out.lt);clear b3
   by_cases h0:D.2=0
   · have hD0:=Lib.hid h0
     rw[iy h0]
     obtain⟨yd,hyd0⟩:∃ y,aR D.1=y:=⟨_,rfl⟩
     rw[hyd0];have hyd:=Lib.hid hyd0;clear h0 hyd0
     go_wp2_with fail
     refine(HN.out w3).mono ?_
     rintro e w4 ⟨rfl,b4⟩;have B4:=Lib.hid (B3.out.trans (b4.mono B3.out.size));have K4:=Lib.hid (K3.out.below b4 K3.out.lt);clear b4;have hpn:Jd.part h.2.2 1 h.1=Jd.sizedL 64 (Pr.prepL 1 h.1):=by rw[hh22.out];rfl
     by_cases hx:(Pr.prepL 1 h.1).2=0
     · by_cases hy:(Pr.prepL 1 h.1).1=[]
       · have hsz:=cW (m:=64) hx (.inl hy)
         rw[← hpn] at hsz;have HF:Hid (bs (Jd.three D (Jd.part h.2.2 1 h.1) (Jd.part false 3 c.2.1))=.tuple #[.agg #[.string ⟨#[]⟩,.string ⟨#[]⟩,.string ⟨#[]⟩],.int .i64 14]):=by unfold Hid;rw[Jd.three_N hD0.out (by rw[hsz];simp),aN,hsz];rfl
         have hye:aR (Pr.prepL 1 h.1).1=⟨#[]⟩:=by rw[hy]
         have hxe:(((Pr.prepL 1 h.1).2:Nat):Int)=0:=by rw[hx];rfl
         rw[hye,hxe];clear hsz hx hy hpn hye hxe;have e0:w4.cell? ⟨q,0,none⟩=some (.string ⟨#[]⟩):=K4.out.cell 0;have f0:w4.frozen? ⟨q,0,none⟩=false:=K4.out.free 0;have e1:w4.cell? ⟨q,1,none⟩=some (.string ⟨#[]⟩):=K4.out.cell 1;have f1:w4.frozen? ⟨q,1,none⟩=false:=K4.out.free 1;have e2:w4.cell? ⟨q,2,none⟩=some (.string ⟨#[]⟩):=K4.out.cell 2;have f2:w4.frozen? ⟨q,2,none⟩=false:=K4.out.free 2
         go_wp2_with fail
         have hst:=bO (w:=w) (.string ⟨#[]⟩) (.string ⟨#[]⟩) (.string ⟨#[]⟩) K4.out (show Below q w w4 from by have h:=B4.out;rw[HQ.out] at h;exact h);have q0:World.cell? (((w4.setCell ⟨q,0,none⟩ (.string ⟨#[]⟩)).setCell ⟨q,1,none⟩ (.string ⟨#[]⟩)).setCell ⟨q,2,none⟩ (.string ⟨#[]⟩)) ⟨q,0,none⟩=some (.string ⟨#[]⟩):=hst.1.cell 0;have q1:World.cell? (((w4.setCell ⟨q,0,none⟩ (.string ⟨#[]⟩)).setCell ⟨q,1,none⟩ (.string ⟨#[]⟩)).setCell ⟨q,2,none⟩ (.string ⟨#[]⟩)) ⟨q,1,none⟩=some (.string ⟨#[]⟩):=hst.1.cell 1;have q2:World.cell? (((w4.setCell ⟨q,0,none⟩ (.string ⟨#[]⟩)).setCell ⟨q,1,none⟩ (.string ⟨#[]⟩)).setCell ⟨q,2,none⟩ (.string ⟨#[]⟩)) ⟨q,2,none⟩=some (.string ⟨#[]⟩):=hst.1.cell 2;refine bodyPost_ret (v:=.tuple #[.agg #[.string ⟨#[]⟩,.string ⟨#[]⟩,.string ⟨#[]⟩],.int .i64 14]) (by simp[results,Tryz.results101,go_sem,q0,q1,q2]) rfl ⟨(congrArg Ending.returned HF.out).symm,by rw[HQ.out];exact hst.2⟩
       · obtain⟨yN,hyr⟩:∃ y,aR (Pr.prepL 1 h.1).1=y:=⟨_,rfl⟩
         have hys:yN.size=(Pr.prepL 1 h.1).1.length:=by rw[← hyr,bQ]
         have hxe:(((Pr.prepL 1 h.1).2:Nat):Int)=0:=by rw[hx];rfl
         have hpos:1≤yN.size:=by rw[hys];exact List.length_pos_iff.2 hy
         by_cases hm:64 < yN.size
         · have hsz:=cW (m:=64) hx (.inr (by rw[← hys];exact hm))
           rw[← hpn] at hsz;have HF:Hid (bs (Jd.three D (Jd.part h.2.2 1 h.1) (Jd.part false 3 c.2.1))=.tuple #[.agg #[.string ⟨#[]⟩,.string ⟨#[]⟩,.string ⟨#[]⟩],.int .i64 14]):=by unfold Hid;rw[Jd.three_N hD0.out (by rw[hsz];simp),aN,hsz];rfl
           rw[hyr,hxe];clear hsz hx hy hpn hyr hxe hys;have e0:w4.cell? ⟨q,0,none⟩=some (.string ⟨#[]⟩):=K4.out.cell 0;have f0:w4.frozen? ⟨q,0,none⟩=false:=K4.out.free 0;have e1:w4.cell? ⟨q,1,none⟩=some (.string ⟨#[]⟩):=K4.out.cell 1;have f1:w4.frozen? ⟨q,1,none⟩=false:=K4.out.free 1;have e2:w4.cell? ⟨q,2,none⟩=some (.string ⟨#[]⟩):=K4.out.cell 2;have f2:w4.frozen? ⟨q,2,none⟩=false:=K4.out.free 2
           go_wp2_with fail
           have hst:=bO (w:=w) (.string ⟨#[]⟩) (.string ⟨#[]⟩) (.string ⟨#[]⟩) K4.out (show Below q w w4 from by have h:=B4.out;rw[HQ.out] at h;exact h);have q0:World.cell? (((w4.setCell ⟨q,0,none⟩ (.string ⟨#[]⟩)).setCell ⟨q,1,none⟩ (.string ⟨#[]⟩)).setCell ⟨q,2,none⟩ (.string ⟨#[]⟩)) ⟨q,0,none⟩=some (.string ⟨#[]⟩):=hst.1.cell 0;have q1:World.cell? (((w4.setCell ⟨q,0,none⟩ (.string ⟨#[]⟩)).setCell ⟨q,1,none⟩ (.string ⟨#[]⟩)).setCell ⟨q,2,none⟩ (.string ⟨#[]⟩)) ⟨q,1,none⟩=some (.string ⟨#[]⟩):=hst.1.cell 1;have q2:World.cell? (((w4.setCell ⟨q,0,none⟩ (.string ⟨#[]⟩)).setCell ⟨q,1,none⟩ (.string ⟨#[]⟩)).setCell ⟨q,2,none⟩ (.string ⟨#[]⟩)) ⟨q,2,none⟩=some (.string ⟨#[]⟩):=hst.1.cell 2;refine bodyPost_ret (v:=.tuple #[.agg #[.string ⟨#[]⟩,.string ⟨#[]⟩,.string ⟨#[]⟩],.int .i64 14]) (by simp[results,Tryz.results101,go_sem,q0,q1,q2]) rfl ⟨(congrArg Ending.returned HF.out).symm,by rw[HQ.out];exact hst.2⟩
         · have hm2:yN.size≤64:=by omega
           have hsz:=eO (m:=64) hx hy (by rw[← hys];exact hm2);rw[← hpn] at hsz;have hN0:Hid ((Jd.part h.2.2 1 h.1).2=0):=by unfold Hid;rw[hsz];exact hx
           have hN1:Hid (aR (Jd.part h.2.2 1 h.1).1=yN):=by unfold Hid;rw[hsz];exact hyr
           rw[hyr,hxe];clear hsz hx hy hpn hyr hxe hys hm
           go_wp2_with fail
           refine(HR.out w4).mono ?_
           rintro e w5 ⟨rfl,b5⟩;have B5:=Lib.hid (B4.out.trans (b5.mono B4.out.size));have K5:=Lib.hid (K4.out.below b5 K4.out.lt);clear b5;have hR0:Hid ((Jd.part false 3 c.2.1).2=0):=rfl;have hR1:Hid (aR (Jd.part false 3 c.2.1).1=⟨#[]⟩):=rfl;have HF:Hid (bs (Jd.three D (Jd.part h.2.2 1 h.1) (Jd.part false 3 c.2.1))=.tuple #[.agg #[.string yN,.string yd,.string ⟨#[]⟩],.int .i64 0]):=by
            unfold Hid;rw[Jd.three_K hD0.out hN0.out hR0.out,dN];simp only;rw[hN1.out,hR1.out,hyd.out];rfl
           have e0:w5.cell? ⟨q,0,none⟩=some (.string ⟨#[]⟩):=K5.out.cell 0;have f0:w5.frozen? ⟨q,0,none⟩=false:=K5.out.free 0;have e1:w5.cell? ⟨q,1,none⟩=some (.string ⟨#[]⟩):=K5.out.cell 1;have f1:w5.frozen? ⟨q,1,none⟩=false:=K5.out.free 1;have e2:w5.cell? ⟨q,2,none⟩=some (.string ⟨#[]⟩):=K5.out.cell 2;have f2:w5.frozen? ⟨q,2,none⟩=false:=K5.out.free 2
           go_wp2_with fail
           have hst:=bO (w:=w) (.string yN) (.string yd) (.string ⟨#[]⟩) K5.out (show Below q w w5 from by have h:=B5.out;rw[HQ.out] at h;exact h);have q0:World.cell? (((w5.setCell ⟨q,0,none⟩ (.string yN)).setCell ⟨q,1,none⟩ (.string yd)).setCell ⟨q,2,none⟩ (.string ⟨#[]⟩)) ⟨q,0,none⟩=some (.string yN):=hst.1.cell 0;have q1:World.cell? (((w5.setCell ⟨q,0,none⟩ (.string yN)).setCell ⟨q,1,none⟩ (.string yd)).setCell ⟨q,2,none⟩ (.string ⟨#[]⟩)) ⟨q,1,none⟩=some (.string yd):=hst.1.cell 1;have q2:World.cell? (((w5.setCell ⟨q,0,none⟩ (.string yN)).setCell ⟨q,1,none⟩ (.string yd)).setCell ⟨q,2,none⟩ (.string ⟨#[]⟩)) ⟨q,2,none⟩=some (.string ⟨#[]⟩):=hst.1.cell 2;refine bodyPost_ret (v:=.tuple #[.agg #[.string yN,.string yd,.string ⟨#[]⟩],.int .i64 0]) (by simp[results,Tryz.results101,go_sem,q0,q1,q2]) rfl ⟨(congrArg Ending.returned HF.out).symm,by rw[HQ.out];exact hst.2⟩
     · have hsz:=e6 (m:=64) hx
       rw[← hpn] at hsz
       obtain⟨z,hz⟩:∃ z:Int,(((Pr.prepL 1 h.1).2:Nat):Int)=z:=⟨_,rfl⟩
       have HF:Hid (bs (Jd.three D (Jd.part h.2.2 1 h.1) (Jd.part false 3 c.2.1))=.tuple #[.agg #[.string ⟨#[]⟩,.string ⟨#[]⟩,.string ⟨#[]⟩],.int .i64 z]):=by unfold Hid;rw[Jd.three_N hD0.out (by rw[hsz];exact hx),aN,hsz,hz]
       have hz0:z≠0:=by omega
       have hzB:(z != 0)=true:=by simpa using hz0
       obtain⟨yE,hyE⟩:∃ y,aR (Pr.prepL 1 h.1).1=y:=⟨_,rfl⟩
       rw[hz,hyE];clear hsz hx hpn hz hyE;have e0:w4.cell? ⟨q,0,none⟩=some (.string ⟨#[]⟩):=K4.out.cell 0;have f0:w4.frozen? ⟨q,0,none⟩=false:=K4.out.free 0;have e1:w4.cell? ⟨q,1,none⟩=some (.string ⟨#[]⟩):=K4.out.cell 1;have f1:w4.frozen? ⟨q,1,none⟩=false:=K4.out.free 1;have e2:w4.cell? ⟨q,2,none⟩=some (.string ⟨#[]⟩):=K4.out.cell 2;have f2:w4.frozen? ⟨q,2,none⟩=false:=K4.out.free 2
       go_wp2_with fail
       have hst:=bO (w:=w) (.string ⟨#[]⟩) (.string ⟨#[]⟩) (.string ⟨#[]⟩) K4.out (show Below q w w4 from by have h:=B4.out;rw[HQ.out] at h;exact h);have q0:World.cell? (((w4.setCell ⟨q,0,none⟩ (.string ⟨#[]⟩)).setCell ⟨q,1,none⟩ (.string ⟨#[]⟩)).setCell ⟨q,2,none⟩ (.string ⟨#[]⟩)) ⟨q,0,none⟩=some (.string ⟨#[]⟩):=hst.1.cell 0;have q1:World.cell? (((w4.setCell ⟨q,0,none⟩ (.string ⟨#[]⟩)).setCell ⟨q,1,none⟩ (.string ⟨#[]⟩)).setCell ⟨q,2,none⟩ (.string ⟨#[]⟩)) ⟨q,1,none⟩=some (.string ⟨#[]⟩):=hst.1.cell 1;have q2:World.cell? (((w4.setCell ⟨q,0,none⟩ (.string ⟨#[]⟩)).setCell ⟨q,1,none⟩ (.string ⟨#[]⟩)).setCell ⟨q,2,none⟩ (.string ⟨#[]⟩)) ⟨q,2,none⟩=some (.string ⟨#[]⟩):=hst.1.cell 2;refine bodyPost_ret (v:=.tuple #[.agg #[.string ⟨#[]⟩,.string ⟨#[]⟩,.string ⟨#[]⟩],.int .i64 z]) (by simp[results,Tryz.results101,go_sem,q0,q1,q2]) rfl ⟨(congrArg Ending.returned HF.out).symm,by rw[HQ.out];exact hst.2⟩
   · obtain⟨z,hz⟩:∃ z:Int,((D.2:Nat):Int)=z:=⟨_,rfl⟩
     have HF:Hid (bs (Jd.three D (Jd.part h.2.2 1 h.1) (Jd.part false 3 c.2.1))=.tuple #[.agg #[.string ⟨#[]⟩,.string ⟨#[]⟩,.string ⟨#[]⟩],.int .i64 z]):=by unfold Hid;rw[Jd.three_D h0,aN,hz]
     have hz0:z≠0:=by omega
     have hzB:(z != 0)=true:=by simpa using hz0
     rw[dI,hz]
     obtain⟨yE,hyE⟩:∃ y,aR D.1=y:=⟨_,rfl⟩
     rw[hyE];clear h0 hz hyE;have e0:w3.cell? ⟨q,0,none⟩=some (.string ⟨#[]⟩):=K3.out.cell 0;have f0:w3.frozen? ⟨q,0,none⟩=false:=K3.out.free 0;have e1:w3.cell? ⟨q,1,none⟩=some (.string ⟨#[]⟩):=K3.out.cell 1;have f1:w3.frozen? ⟨q,1,none⟩=false:=K3.out.free 1;have e2:w3.cell? ⟨q,2,none⟩=some (.string ⟨#[]⟩):=K3.out.cell 2;have f2:w3.frozen? ⟨q,2,none⟩=false:=K3.out.free 2
     go_wp2_with fail
     have hst:=bO (w:=w) (.string ⟨#[]⟩) (.string ⟨#[]⟩) (.string ⟨#[]⟩) K3.out (show Below q w w3 from by have h:=B3.out;rw[HQ.out] at h;exact h);have q0:World.cell? (((w3.setCell ⟨q,0,none⟩ (.string ⟨#[]⟩)).setCell ⟨q,1,none⟩ (.string ⟨#[]⟩)).setCell ⟨q,2,none⟩ (.string ⟨#[]⟩)) ⟨q,0,none⟩=some (.string ⟨#[]⟩):=hst.1.cell 0;have q1:World.cell? (((w3.setCell ⟨q,0,none⟩ (.string ⟨#[]⟩)).setCell ⟨q,1,none⟩ (.string ⟨#[]⟩)).setCell ⟨q,2,none⟩ (.string ⟨#[]⟩)) ⟨q,1,none⟩=some (.string ⟨#[]⟩):=hst.1.cell 1;have q2:World.cell? (((w3.setCell ⟨q,0,none⟩ (.string ⟨#[]⟩)).setCell ⟨q,1,none⟩ (.string ⟨#[]⟩)).setCell ⟨q,2,none⟩ (.string ⟨#[]⟩)) ⟨q,2,none⟩=some (.string ⟨#[]⟩):=hst.1.cell 2;refine bodyPost_ret (v:=.tuple #[.agg #[.string ⟨#[]⟩,.string ⟨#[]⟩,.string ⟨#[]⟩],.int .i64 z]) (by simp[results,Tryz.results101,go_sem,q0,q1,q2]) rfl ⟨(congrArg Ending.returned HF.out).symm,by rw[HQ.out];exact hst.2⟩
 · have hc22:=Lib.hid hb1
   rw[dI] at HN;rw[dI] at HR;rw[hb1] at HC;rw[hb2] at HH;have he:h=d:=by rw[hhalf,hb2];rfl
   have hh22:Hid (h.2.2=true):=by unfold Hid;rw[he];exact hb2
   rw[← he] at HH;clear he hf1 hf2 hhalf hh hb1 hb2
   obtain⟨x1,hx1⟩:∃ x,aR c.1=x:=⟨_,rfl⟩
   rw[hx1] at HC HH
   obtain⟨x2,hx2⟩:∃ x,aR c.2.1=x:=⟨_,rfl⟩
   rw[hx2] at HC HR
   obtain⟨x3,hx3⟩:∃ x,aR h.1=x:=⟨_,rfl⟩
   obtain⟨x4,hx4⟩:∃ x,aR h.2.1=x:=⟨_,rfl⟩
   rw[hx3] at HH HN;rw[hx4] at HH HD;clear hx1 hx2 hx3 hx4;go_enter Tryz.func101,Tryz.ntmps101
   go_wp2_with fail
   refine(HC.out w0).mono ?_
   rintro e w1 ⟨rfl,b1⟩;have B1:=Lib.hid (B0.out.trans (b1.mono B0.out.size));have K1:=Lib.hid (K0.out.below b1 K0.out.lt);clear b1
   go_wp2_with fail
   refine(HH.out w1).mono ?_
   rintro e w2 ⟨rfl,b2⟩;have B2:=Lib.hid (B1.out.trans (b2.mono B1.out.size));have K2:=Lib.hid (K1.out.below b2 K1.out.lt);clear b2
   go_wp2_with fail
   refine(HD.out w2).mono ?_
   rintro e w3 ⟨rfl,b3⟩;have B3:=Lib.hid (B2.out.trans (b3.mono B2.out.size));have K3:=Lib.hid (K2.out.below b3 K2.out.lt);clear b3
   by_cases h0:D.2=0
   · have hD0:=Lib.hid h0
     rw[iy h0]
     obtain⟨yd,hyd0⟩:∃ y,aR D.1=y:=⟨_,rfl⟩
     rw[hyd0];have hyd:=Lib.hid hyd0;clear h0 hyd0
     go_wp2_with fail
     refine(HN.out w3).mono ?_
     rintro e w4 ⟨rfl,b4⟩;have B4:=Lib.hid (B3.out.trans (b4.mono B3.out.size));have K4:=Lib.hid (K3.out.below b4 K3.out.lt);clear b4;have hpn:Jd.part h.2.2 1 h.1=Jd.sizedL 64 (Pr.prepL 1 h.1):=by rw[hh22.out];rfl
     by_cases hx:(Pr.prepL 1 h.1).2=0
     · by_cases hy:(Pr.prepL 1 h.1).1=[]
       · have hsz:=cW (m:=64) hx (.inl hy)
         rw[← hpn] at hsz;have HF:Hid (bs (Jd.three D (Jd.part h.2.2 1 h.1) (Jd.part true 3 c.2.1))=.tuple #[.agg #[.string ⟨#[]⟩,.string ⟨#[]⟩,.string ⟨#[]⟩],.int .i64 14]):=by unfold Hid;rw[Jd.three_N hD0.out (by rw[hsz];simp),aN,hsz];rfl
         have hye:aR (Pr.prepL 1 h.1).1=⟨#[]⟩:=by rw[hy]
         have hxe:(((Pr.prepL 1 h.1).2:Nat):Int)=0:=by rw[hx];rfl
         rw[hye,hxe];clear hsz hx hy hpn hye hxe;have e0:w4.cell? ⟨q,0,none⟩=some (.string ⟨#[]⟩):=K4.out.cell 0;have f0:w4.frozen? ⟨q,0,none⟩=false:=K4.out.free 0;have e1:w4.cell? ⟨q,1,none⟩=some (.string ⟨#[]⟩):=K4.out.cell 1;have f1:w4.frozen? ⟨q,1,none⟩=false:=K4.out.free 1;have e2:w4.cell? ⟨q,2,none⟩=some (.string ⟨#[]⟩):=K4.out.cell 2;have f2:w4.frozen? ⟨q,2,none⟩=false:=K4.out.free 2
         go_wp2_with fail
         have hst:=bO (w:=w) (.string ⟨#[]⟩) (.string ⟨#[]⟩) (.string ⟨#[]⟩) K4.out (show Below q w w4 from by have h:=B4.out;rw[HQ.out] at h;exact h);have q0:World.cell? (((w4.setCell ⟨q,0,none⟩ (.string ⟨#[]⟩)).setCell ⟨q,1,none⟩ (.string ⟨#[]⟩)).setCell ⟨q,2,none⟩ (.string ⟨#[]⟩)) ⟨q,0,none⟩=some (.string ⟨#[]⟩):=hst.1.cell 0;have q1:World.cell? (((w4.setCell ⟨q,0,none⟩ (.string ⟨#[]⟩)).setCell ⟨q,1,none⟩ (.string ⟨#[]⟩)).setCell ⟨q,2,none⟩ (.string ⟨#[]⟩)) ⟨q,1,none⟩=some (.string ⟨#[]⟩):=hst.1.cell 1;have q2:World.cell? (((w4.setCell ⟨q,0,none⟩ (.string ⟨#[]⟩)).setCell ⟨q,1,none⟩ (.string ⟨#[]⟩)).setCell ⟨q,2,none⟩ (.string ⟨#[]⟩)) ⟨q,2,none⟩=some (.string ⟨#[]⟩):=hst.1.cell 2;refine bodyPost_ret (v:=.tuple #[.agg #[.string ⟨#[]⟩,.string ⟨#[]⟩,.string ⟨#[]⟩],.int .i64 14]) (by simp[results,Tryz.results101,go_sem,q0,q1,q2]) rfl ⟨(congrArg Ending.returned HF.out).symm,by rw[HQ.out];exact hst.2⟩
       · obtain⟨yN,hyr⟩:∃ y,aR (Pr.prepL 1 h.1).1=y:=⟨_,rfl⟩
         have hys:yN.size=(Pr.prepL 1 h.1).1.length:=by rw[← hyr,bQ]
         have hxe:(((Pr.prepL 1 h.1).2:Nat):Int)=0:=by rw[hx];rfl
         have hpos:1≤yN.size:=by rw[hys];exact List.length_pos_iff.2 hy
         by_cases hm:64 < yN.size
         · have hsz:=cW (m:=64) hx (.inr (by rw[← hys];exact hm))
           rw[← hpn] at hsz;have HF:Hid (bs (Jd.three D (Jd.part h.2.2 1 h.1) (Jd.part true 3 c.2.1))=.tuple #[.agg #[.string ⟨#[]⟩,.string ⟨#[]⟩,.string ⟨#[]⟩],.int .i64 14]):=by unfold Hid;rw[Jd.three_N hD0.out (by rw[hsz];simp),aN,hsz];rfl
           rw[hyr,hxe];clear hsz hx hy hpn hyr hxe hys;have e0:w4.cell? ⟨q,0,none⟩=some (.string ⟨#[]⟩):=K4.out.cell 0;have f0:w4.frozen? ⟨q,0,none⟩=false:=K4.out.free 0;have e1:w4.cell? ⟨q,1,none⟩=some (.string ⟨#[]⟩):=K4.out.cell 1;have f1:w4.frozen? ⟨q,1,none⟩=false:=K4.out.free 1;have e2:w4.cell? ⟨q,2,none⟩=some (.string ⟨#[]⟩):=K4.out.cell 2;have f2:w4.frozen? ⟨q,2,none⟩=false:=K4.out.free 2
           go_wp2_with fail
           have hst:=bO (w:=w) (.string ⟨#[]⟩) (.string ⟨#[]⟩) (.string ⟨#[]⟩) K4.out (show Below q w w4 from by have h:=B4.out;rw[HQ.out] at h;exact h);have q0:World.cell? (((w4.setCell ⟨q,0,none⟩ (.string ⟨#[]⟩)).setCell ⟨q,1,none⟩ (.string ⟨#[]⟩)).setCell ⟨q,2,none⟩ (.string ⟨#[]⟩)) ⟨q,0,none⟩=some (.string ⟨#[]⟩):=hst.1.cell 0;have q1:World.cell? (((w4.setCell ⟨q,0,none⟩ (.string ⟨#[]⟩)).setCell ⟨q,1,none⟩ (.string ⟨#[]⟩)).setCell ⟨q,2,none⟩ (.string ⟨#[]⟩)) ⟨q,1,none⟩=some (.string ⟨#[]⟩):=hst.1.cell 1;have q2:World.cell? (((w4.setCell ⟨q,0,none⟩ (.string ⟨#[]⟩)).setCell ⟨q,1,none⟩ (.string ⟨#[]⟩)).setCell ⟨q,2,none⟩ (.string ⟨#[]⟩)) ⟨q,2,none⟩=some (.string ⟨#[]⟩):=hst.1.cell 2;refine bodyPost_ret (v:=.tuple #[.agg #[.string ⟨#[]⟩,.string ⟨#[]⟩,.string ⟨#[]⟩],.int .i64 14]) (by simp[results,Tryz.results101,go_sem,q0,q1,q2]) rfl ⟨(congrArg Ending.returned HF.out).symm,by rw[HQ.out];exact hst.2⟩
         · have hm2:yN.size≤64:=by omega
           have hsz:=eO (m:=64) hx hy (by rw[← hys];exact hm2);rw[← hpn] at hsz;have hN0:Hid ((Jd.part h.2.2 1 h.1).2=0):=by unfold Hid;rw[hsz];exact hx
           have hN1:Hid (aR (Jd.part h.2.2 1 h.1).1=yN):=by unfold Hid;rw[hsz];exact hyr
           rw[hyr,hxe];clear hsz hx hy hpn hyr hxe hys hm
           go_wp2_with fail
           refine(HR.out w4).mono ?_
           rintro e w5 ⟨rfl,b5⟩;have B5:=Lib.hid (B4.out.trans (b5.mono B4.out.size));have K5:=Lib.hid (K4.out.below b5 K4.out.lt);clear b5;have hpr:Jd.part true 3 c.2.1=Jd.sizedL 64 (Pr.prepL 3 c.2.1):=rfl
           by_cases hx:(Pr.prepL 3 c.2.1).2=0
           · by_cases hy:(Pr.prepL 3 c.2.1).1=[]
             · have hsz:=cW (m:=64) hx (.inl hy)
               rw[← hpr] at hsz;have HF:Hid (bs (Jd.three D (Jd.part h.2.2 1 h.1) (Jd.part true 3 c.2.1))=.tuple #[.agg #[.string ⟨#[]⟩,.string ⟨#[]⟩,.string ⟨#[]⟩],.int .i64 14]):=by unfold Hid;rw[Jd.three_R hD0.out hN0.out (by rw[hsz];simp),aN,hsz];rfl
               have hye:aR (Pr.prepL 3 c.2.1).1=⟨#[]⟩:=by rw[hy]
               have hxe:(((Pr.prepL 3 c.2.1).2:Nat):Int)=0:=by rw[hx];rfl
               rw[hye,hxe];clear hsz hx hy hpr hye hxe;have e0:w5.cell? ⟨q,0,none⟩=some (.string ⟨#[]⟩):=K5.out.cell 0;have f0:w5.frozen? ⟨q,0,none⟩=false:=K5.out.free 0;have e1:w5.cell? ⟨q,1,none⟩=some (.string ⟨#[]⟩):=K5.out.cell 1;have f1:w5.frozen? ⟨q,1,none⟩=false:=K5.out.free 1;have e2:w5.cell? ⟨q,2,none⟩=some (.string ⟨#[]⟩):=K5.out.cell 2;have f2:w5.frozen? ⟨q,2,none⟩=false:=K5.out.free 2
               go_wp2_with fail
               have hst:=bO (w:=w) (.string ⟨#[]⟩) (.string ⟨#[]⟩) (.string ⟨#[]⟩) K5.out (show Below q w w5 from by have h:=B5.out;rw[HQ.out] at h;exact h);have q0:World.cell? (((w5.setCell ⟨q,0,none⟩ (.string ⟨#[]⟩)).setCell ⟨q,1,none⟩ (.string ⟨#[]⟩)).setCell ⟨q,2,none⟩ (.string ⟨#[]⟩)) ⟨q,0,none⟩=some (.string ⟨#[]⟩):=hst.1.cell 0;have q1:World.cell? (((w5.setCell ⟨q,0,none⟩ (.string ⟨#[]⟩)).setCell ⟨q,1,none⟩ (.string ⟨#[]⟩)).setCell ⟨q,2,none⟩ (.string ⟨#[]⟩)) ⟨q,1,none⟩=some (.string ⟨#[]⟩):=hst.1.cell 1;have q2:World.cell? (((w5.setCell ⟨q,0,none⟩ (.string ⟨#[]⟩)).setCell ⟨q,1,none⟩ (.string ⟨#[]⟩)).setCell ⟨q,2,none⟩ (.string ⟨#[]⟩)) ⟨q,2,none⟩=some (.string ⟨#[]⟩):=hst.1.cell 2;refine bodyPost_ret (v:=.tuple #[.agg #[.string ⟨#[]⟩,.string ⟨#[]⟩,.string ⟨#[]⟩],.int .i64 14]) (by simp[results,Tryz.results101,go_sem,q0,q1,q2]) rfl ⟨(congrArg Ending.returned HF.out).symm,by rw[HQ.out];exact hst.2⟩
             · obtain⟨yR,hyr⟩:∃ y,aR (Pr.prepL 3 c.2.1).1=y:=⟨_,rfl⟩
               have hys:yR.size=(Pr.prepL 3 c.2.1).1.length:=by rw[← hyr,bQ]
               have hxe:(((Pr.prepL 3 c.2.1).2:Nat):Int)=0:=by rw[hx];rfl
               have hpos:1≤yR.size:=by rw[hys];exact List.length_pos_iff.2 hy
               by_cases hm:64 < yR.size
               · have hsz:=cW (m:=64) hx (.inr (by rw[← hys];exact hm))
                 rw[← hpr] at hsz;have HF:Hid (bs (Jd.three D (Jd.part h.2.2 1 h.1) (Jd.part true 3 c.2.1))=.tuple #[.agg #[.string ⟨#[]⟩,.string ⟨#[]⟩,.string ⟨#[]⟩],.int .i64 14]):=by unfold Hid;rw[Jd.three_R hD0.out hN0.out (by rw[hsz];simp),aN,hsz];rfl
                 rw[hyr,hxe];clear hsz hx hy hpr hyr hxe hys;have e0:w5.cell? ⟨q,0,none⟩=some (.string ⟨#[]⟩):=K5.out.cell 0;have f0:w5.frozen? ⟨q,0,none⟩=false:=K5.out.free 0;have e1:w5.cell? ⟨q,1,none⟩=some (.string ⟨#[]⟩):=K5.out.cell 1;have f1:w5.frozen? ⟨q,1,none⟩=false:=K5.out.free 1;have e2:w5.cell? ⟨q,2,none⟩=some (.string ⟨#[]⟩):=K5.out.cell 2;have f2:w5.frozen? ⟨q,2,none⟩=false:=K5.out.free 2
                 go_wp2_with fail
                 have hst:=bO (w:=w) (.string ⟨#[]⟩) (.string ⟨#[]⟩) (.string ⟨#[]⟩) K5.out (show Below q w w5 from by have h:=B5.out;rw[HQ.out] at h;exact h);have q0:World.cell? (((w5.setCell ⟨q,0,none⟩ (.string ⟨#[]⟩)).setCell ⟨q,1,none⟩ (.string ⟨#[]⟩)).setCell ⟨q,2,none⟩ (.string ⟨#[]⟩)) ⟨q,0,none⟩=some (.string ⟨#[]⟩):=hst.1.cell 0;have q1:World.cell? (((w5.setCell ⟨q,0,none⟩ (.string ⟨#[]⟩)).setCell ⟨q,1,none⟩ (.string ⟨#[]⟩)).setCell ⟨q,2,none⟩ (.string ⟨#[]⟩)) ⟨q,1,none⟩=some (.string ⟨#[]⟩):=hst.1.cell 1;have q2:World.cell? (((w5.setCell ⟨q,0,none⟩ (.string ⟨#[]⟩)).setCell ⟨q,1,none⟩ (.string ⟨#[]⟩)).setCell ⟨q,2,none⟩ (.string ⟨#[]⟩)) ⟨q,2,none⟩=some (.string ⟨#[]⟩):=hst.1.cell 2;refine bodyPost_ret (v:=.tuple #[.agg #[.string ⟨#[]⟩,.string ⟨#[]⟩,.string ⟨#[]⟩],.int .i64 14]) (by simp[results,Tryz.results101,go_sem,q0,q1,q2]) rfl ⟨(congrArg Ending.returned HF.out).symm,by rw[HQ.out];exact hst.2⟩
               · have hm2:yR.size≤64:=by omega
                 have hsz:=eO (m:=64) hx hy (by rw[← hys];exact hm2);rw[← hpr] at hsz;have hR0:Hid ((Jd.part true 3 c.2.1).2=0):=by unfold Hid;rw[hsz];exact hx
                 have hR1:Hid (aR (Jd.part true 3 c.2.1).1=yR):=by unfold Hid;rw[hsz];exact hyr
                 rw[hyr,hxe];clear hsz hx hy hpr hyr hxe hys hm;have HF:Hid (bs (Jd.three D (Jd.part h.2.2 1 h.1) (Jd.part true 3 c.2.1))=.tuple #[.agg #[.string yN,.string yd,.string yR],.int .i64 0]):=by
                  unfold Hid;rw[Jd.three_K hD0.out hN0.out hR0.out,dN];simp only;rw[hN1.out,hR1.out,hyd.out];rfl
                 have e0:w5.cell? ⟨q,0,none⟩=some (.string ⟨#[]⟩):=K5.out.cell 0;have f0:w5.frozen? ⟨q,0,none⟩=false:=K5.out.free 0;have e1:w5.cell? ⟨q,1,none⟩=some (.string ⟨#[]⟩):=K5.out.cell 1;have f1:w5.frozen? ⟨q,1,none⟩=false:=K5.out.free 1;have e2:w5.cell? ⟨q,2,none⟩=some (.string ⟨#[]⟩):=K5.out.cell 2;have f2:w5.frozen? ⟨q,2,none⟩=false:=K5.out.free 2
                 go_wp2_with fail
                 have hst:=bO (w:=w) (.string yN) (.string yd) (.string yR) K5.out (show Below q w w5 from by have h:=B5.out;rw[HQ.out] at h;exact h);have q0:World.cell? (((w5.setCell ⟨q,0,none⟩ (.string yN)).setCell ⟨q,1,none⟩ (.string yd)).setCell ⟨q,2,none⟩ (.string yR)) ⟨q,0,none⟩=some (.string yN):=hst.1.cell 0;have q1:World.cell? (((w5.setCell ⟨q,0,none⟩ (.string yN)).setCell ⟨q,1,none⟩ (.string yd)).setCell ⟨q,2,none⟩ (.string yR)) ⟨q,1,none⟩=some (.string yd):=hst.1.cell 1;have q2:World.cell? (((w5.setCell ⟨q,0,none⟩ (.string yN)).setCell ⟨q,1,none⟩ (.string yd)).setCell ⟨q,2,none⟩ (.string yR)) ⟨q,2,none⟩=some (.string yR):=hst.1.cell 2;refine bodyPost_ret (v:=.tuple #[.agg #[.string yN,.string yd,.string yR],.int .i64 0]) (by simp[results,Tryz.results101,go_sem,q0,q1,q2]) rfl ⟨(congrArg Ending.returned HF.out).symm,by rw[HQ.out];exact hst.2⟩
           · have hsz:=e6 (m:=64) hx
             rw[← hpr] at hsz
             obtain⟨z,hz⟩:∃ z:Int,(((Pr.prepL 3 c.2.1).2:Nat):Int)=z:=⟨_,rfl⟩
             have HF:Hid (bs (Jd.three D (Jd.part h.2.2 1 h.1) (Jd.part true 3 c.2.1))=.tuple #[.agg #[.string ⟨#[]⟩,.string ⟨#[]⟩,.string ⟨#[]⟩],.int .i64 z]):=by unfold Hid;rw[Jd.three_R hD0.out hN0.out (by rw[hsz];exact hx),aN,hsz,hz]
             have hz0:z≠0:=by omega
             have hzB:(z != 0)=true:=by simpa using hz0
             obtain⟨yE,hyE⟩:∃ y,aR (Pr.prepL 3 c.2.1).1=y:=⟨_,rfl⟩
             rw[hz,hyE];clear hsz hx hpr hz hyE;have e0:w5.cell? ⟨q,0,none⟩=some (.string ⟨#[]⟩):=K5.out.cell 0;have f0:w5.frozen? ⟨q,0,none⟩=false:=K5.out.free 0;have e1:w5.cell? ⟨q,1,none⟩=some (.string ⟨#[]⟩):=K5.out.cell 1;have f1:w5.frozen? ⟨q,1,none⟩=false:=K5.out.free 1;have e2:w5.cell? ⟨q,2,none⟩=some (.string ⟨#[]⟩):=K5.out.cell 2;have f2:w5.frozen? ⟨q,2,none⟩=false:=K5.out.free 2
             go_wp2_with fail
             have hst:=bO (w:=w) (.string ⟨#[]⟩) (.string ⟨#[]⟩) (.string ⟨#[]⟩) K5.out (show Below q w w5 from by have h:=B5.out;rw[HQ.out] at h;exact h);have q0:World.cell? (((w5.setCell ⟨q,0,none⟩ (.string ⟨#[]⟩)).setCell ⟨q,1,none⟩ (.string ⟨#[]⟩)).setCell ⟨q,2,none⟩ (.string ⟨#[]⟩)) ⟨q,0,none⟩=some (.string ⟨#[]⟩):=hst.1.cell 0;have q1:World.cell? (((w5.setCell ⟨q,0,none⟩ (.string ⟨#[]⟩)).setCell ⟨q,1,none⟩ (.string ⟨#[]⟩)).setCell ⟨q,2,none⟩ (.string ⟨#[]⟩)) ⟨q,1,none⟩=some (.string ⟨#[]⟩):=hst.1.cell 1;have q2:World.cell? (((w5.setCell ⟨q,0,none⟩ (.string ⟨#[]⟩)).setCell ⟨q,1,none⟩ (.string ⟨#[]⟩)).setCell ⟨q,2,none⟩ (.string ⟨#[]⟩)) ⟨q,2,none⟩=some (.string ⟨#[]⟩):=hst.1.cell 2;refine bodyPost_ret (v:=.tuple #[.agg #[.string ⟨#[]⟩,.string ⟨#[]⟩,.string ⟨#[]⟩],.int .i64 z]) (by simp[results,Tryz.results101,go_sem,q0,q1,q2]) rfl ⟨(congrArg Ending.returned HF.out).symm,by rw[HQ.out];exact hst.2⟩
     · have hsz:=e6 (m:=64) hx
       rw[← hpn] at hsz
       obtain⟨z,hz⟩:∃ z:Int,(((Pr.prepL 1 h.1).2:Nat):Int)=z:=⟨_,rfl⟩
       have HF:Hid (bs (Jd.three D (Jd.part h.2.2 1 h.1) (Jd.part true 3 c.2.1))=.tuple #[.agg #[.string ⟨#[]⟩,.string ⟨#[]⟩,.string ⟨#[]⟩],.int .i64 z]):=by unfold Hid;rw[Jd.three_N hD0.out (by rw[hsz];exact hx),aN,hsz,hz]
       have hz0:z≠0:=by omega
       have hzB:(z != 0)=true:=by simpa using hz0
       obtain⟨yE,hyE⟩:∃ y,aR (Pr.prepL 1 h.1).1=y:=⟨_,rfl⟩
       rw[hz,hyE];clear hsz hx hpn hz hyE;have e0:w4.cell? ⟨q,0,none⟩=some (.string ⟨#[]⟩):=K4.out.cell 0;have f0:w4.frozen? ⟨q,0,none⟩=false:=K4.out.free 0;have e1:w4.cell? ⟨q,1,none⟩=some (.string ⟨#[]⟩):=K4.out.cell 1;have f1:w4.frozen? ⟨q,1,none⟩=false:=K4.out.free 1;have e2:w4.cell? ⟨q,2,none⟩=some (.string ⟨#[]⟩):=K4.out.cell 2;have f2:w4.frozen? ⟨q,2,none⟩=false:=K4.out.free 2
       go_wp2_with fail
       have hst:=bO (w:=w) (.string ⟨#[]⟩) (.string ⟨#[]⟩) (.string ⟨#[]⟩) K4.out (show Below q w w4 from by have h:=B4.out;rw[HQ.out] at h;exact h);have q0:World.cell? (((w4.setCell ⟨q,0,none⟩ (.string ⟨#[]⟩)).setCell ⟨q,1,none⟩ (.string ⟨#[]⟩)).setCell ⟨q,2,none⟩ (.string ⟨#[]⟩)) ⟨q,0,none⟩=some (.string ⟨#[]⟩):=hst.1.cell 0;have q1:World.cell? (((w4.setCell ⟨q,0,none⟩ (.string ⟨#[]⟩)).setCell ⟨q,1,none⟩ (.string ⟨#[]⟩)).setCell ⟨q,2,none⟩ (.string ⟨#[]⟩)) ⟨q,1,none⟩=some (.string ⟨#[]⟩):=hst.1.cell 1;have q2:World.cell? (((w4.setCell ⟨q,0,none⟩ (.string ⟨#[]⟩)).setCell ⟨q,1,none⟩ (.string ⟨#[]⟩)).setCell ⟨q,2,none⟩ (.string ⟨#[]⟩)) ⟨q,2,none⟩=some (.string ⟨#[]⟩):=hst.1.cell 2;refine bodyPost_ret (v:=.tuple #[.agg #[.string ⟨#[]⟩,.string ⟨#[]⟩,.string ⟨#[]⟩],.int .i64 z]) (by simp[results,Tryz.results101,go_sem,q0,q1,q2]) rfl ⟨(congrArg Ending.returned HF.out).symm,by rw[HQ.out];exact hst.2⟩
   · obtain⟨z,hz⟩:∃ z:Int,((D.2:Nat):Int)=z:=⟨_,rfl⟩
     have HF:Hid (bs (Jd.three D (Jd.part h.2.2 1 h.1) (Jd.part true 3 c.2.1))=.tuple #[.agg #[.string ⟨#[]⟩,.string ⟨#[]⟩,.string ⟨#[]⟩],.int .i64 z]):=by unfold Hid;rw[Jd.three_D h0,aN,hz]
     have hz0:z≠0:=by omega
     have hzB:(z != 0)=true:=by simpa using hz0
     rw[dI,hz]
     obtain⟨yE,hyE⟩:∃ y,aR D.1=y:=⟨_,rfl⟩
     rw[hyE];clear h0 hz hyE;have e0:w3.cell? ⟨q,0,none⟩=some (.string ⟨#[]⟩):=K3.out.cell 0;have f0:w3.frozen? ⟨q,0,none⟩=false:=K3.out.free 0;have e1:w3.cell? ⟨q,1,none⟩=some (.string ⟨#[]⟩):=K3.out.cell 1;have f1:w3.frozen? ⟨q,1,none⟩=false:=K3.out.free 1;have e2:w3.cell? ⟨q,2,none⟩=some (.string ⟨#[]⟩):=K3.out.cell 2;have f2:w3.frozen? ⟨q,2,none⟩=false:=K3.out.free 2
     go_wp2_with fail
     have hst:=bO (w:=w) (.string ⟨#[]⟩) (.string ⟨#[]⟩) (.string ⟨#[]⟩) K3.out (show Below q w w3 from by have h:=B3.out;rw[HQ.out] at h;exact h);have q0:World.cell? (((w3.setCell ⟨q,0,none⟩ (.string ⟨#[]⟩)).setCell ⟨q,1,none⟩ (.string ⟨#[]⟩)).setCell ⟨q,2,none⟩ (.string ⟨#[]⟩)) ⟨q,0,none⟩=some (.string ⟨#[]⟩):=hst.1.cell 0;have q1:World.cell? (((w3.setCell ⟨q,0,none⟩ (.string ⟨#[]⟩)).setCell ⟨q,1,none⟩ (.string ⟨#[]⟩)).setCell ⟨q,2,none⟩ (.string ⟨#[]⟩)) ⟨q,1,none⟩=some (.string ⟨#[]⟩):=hst.1.cell 1;have q2:World.cell? (((w3.setCell ⟨q,0,none⟩ (.string ⟨#[]⟩)).setCell ⟨q,1,none⟩ (.string ⟨#[]⟩)).setCell ⟨q,2,none⟩ (.string ⟨#[]⟩)) ⟨q,2,none⟩=some (.string ⟨#[]⟩):=hst.1.cell 2;refine bodyPost_ret (v:=.tuple #[.agg #[.string ⟨#[]⟩,.string ⟨#[]⟩,.string ⟨#[]⟩],.int .i64 z]) (by simp[results,Tryz.results101,go_sem,q0,q1,q2]) rfl ⟨(congrArg Ending.returned HF.out).symm,by rw[HQ.out];exact hst.2⟩
set_option maxHeartbeats 4000000 in
theorem rD (s:ByteArray) (w:World) (hs:s.size≤10000000) :
 Calls Tryz.prog 74 #[.string s] w fun e w'=>e=.returned (bM (Jd.bareL s.data.toList))∧Below w.heap.size w w':=by
 have HP:=Lib.hid (po s w hs)
 obtain⟨p,hp⟩:∃ p,Jd.parseL s.data.toList=p:=⟨_,rfl⟩
 have hlen:=Jd.parse_len (s:=s.data.toList) (j:=p.1);have hok:=Jd.bare_ok (s:=s.data.toList) (j:=p.1);have hres:=Jd.bare_res (s:=s.data.toList) (j:=p.1);have hbad:=Jd.bare_bad (s:=s.data.toList);rw[hp] at HP hlen hok hres hbad;rw[dN] at HP;clear hp hs
 obtain⟨l,hl⟩:∃ l,aR p.1.1=l:=⟨_,rfl⟩
 obtain⟨d,hd⟩:∃ d,aR p.1.2.1=d:=⟨_,rfl⟩
 obtain⟨r,hr⟩:∃ r,aR p.1.2.2=r:=⟨_,rfl⟩
 have dl:l.data.toList=p.1.1:=by rw[← hl]
 have dd:d.data.toList=p.1.2.1:=by rw[← hd]
 have dr:r.data.toList=p.1.2.2:=by rw[← hr]
 rw[hl,hd,hr] at HP
 by_cases h0:p.2=0
 · have e0:p=(p.1,0):=Prod.ext rfl h0
   obtain⟨z1,z2,z3⟩:=hlen e0
   rw[h0] at HP
   by_cases h1:p.1.2.2=[]
   · have HF:=Lib.hid (hok e0 h1)
     have hre:r=⟨#[]⟩:=cg (by rw[dr];exact h1);subst hre;have HT:=Lib.hid (fun W=>qZ l d ⟨#[]⟩ W (by rw[Lib.size_eq,dl];omega) (by rw[Lib.size_eq,dd];omega) (by decide));have e3:(l.data.toList,d.data.toList,(⟨#[]⟩:ByteArray).data.toList)=p.1:=by rw[dl,dd];exact Prod.ext rfl (Prod.ext rfl h1.symm)
     rw[e3] at HT;rw[show bM (Jd.bareL s.data.toList)=.tuple #[.string (aR (Jd.textL p.1)),.int .i64 0] from by rw[HF.out];rfl]
     obtain⟨x,hx⟩:∃ x,aR (Jd.textL p.1)=x:=⟨_,rfl⟩
     rw[hx] at HT ⊢;clear hlen hok hres hbad hl hd hr dl dd dr e0 z1 z2 z3 h0 h1 HF e3 hx;go_enter Tryz.func74,Tryz.ntmps74
     go_wp2_with fail
     refine HP.out.mono ?_;rintro e w1 ⟨rfl,b1⟩;have hb1:Below w.heap.size w (w1.alloc (.cells #[.string l,.string d,.string ⟨#[]⟩] 115)):=b1.alloc b1.size _;have B1:=Lib.hid hb1;clear b1 hb1
     go_wp2_with fail
     refine(HT.out _).mono ?_
     rintro e w2 ⟨rfl,b2⟩;have B2:=Lib.hid (B1.out.trans (b2.mono B1.out.size));clear b2
     go_wp2_with fail
     go_ret2
     exact⟨rfl,B2.out⟩
   · have HF:=Lib.hid (hres e0 h1)
     have hne:=aP (a:=r) (by rw[dr];exact h1);rw[show bM (Jd.bareL s.data.toList)=.tuple #[.string ⟨#[]⟩,.int .i64 14] from by rw[HF.out];rfl];clear hlen hok hres hbad hl hd hr dl dd dr e0 z1 z2 z3 h0 h1 HF;go_enter Tryz.func74,Tryz.ntmps74
     go_wp2_with fail
     refine HP.out.mono ?_;rintro e w1 ⟨rfl,b1⟩;have hb1:Below w.heap.size w (w1.alloc (.cells #[.string l,.string d,.string r] 115)):=b1.alloc b1.size _;have B1:=Lib.hid hb1;clear b1 hb1
     go_wp2_with fail
     go_ret2
     exact⟨rfl,B1.out⟩
 · have HF:=Lib.hid (hbad h0)
   rw[show bM (Jd.bareL s.data.toList)=.tuple #[.string ⟨#[]⟩,.int .i64 (p.2:Nat)] from by rw[HF.out];rfl]
   obtain⟨n,hn⟩:∃ n:Int,((p.2:Nat):Int)=n:=⟨_,rfl⟩
   rw[hn] at HP ⊢;have hn0:n≠0:=by omega
   have hnB:(n != 0)=true:=by simpa using hn0
   clear hlen hok hres hbad hl hd hr dl dd dr h0 HF hn;go_enter Tryz.func74,Tryz.ntmps74
   go_wp2_with fail
   refine HP.out.mono ?_;rintro e w1 ⟨rfl,b1⟩;have hb1:Below w.heap.size w (w1.alloc (.cells #[.string l,.string d,.string r] 115)):=b1.alloc b1.size _;have B1:=Lib.hid hb1;clear b1 hb1
   go_wp2_with fail
   go_ret2
   exact⟨rfl,B1.out⟩
end Go.Proofs.YtbgaglcgennhiaaGreatDoor

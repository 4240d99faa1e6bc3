import Derived.Test.YtbgaglcgennhiaaGreatDoorP16
namespace Go.Proofs.YtbgaglcgennhiaaGreatDoor
open Go.RowKit Rg Tx
def sk (j:Jd.J):Value:=.agg #[.string (aR j.1),.string (aR j.2.1),.string (aR j.2.2)]
def bs (s:sf):Value:=.tuple #[sk s.1,.int .i64 (s.2:Nat)]
theorem og (D:List UInt8 × Nat):al 0 (al 1 (Jd.none_,0) D) ([],0)=al 1 (Jd.none_,0) D:=by
 unfold al
 by_cases h:D.2=0
 · simp[h,nL,Jd.none_]
 · simp[h,Jd.none_]
theorem tt (D N:List UInt8 × Nat):al 2 (al 0 (al 1 (Jd.none_,0) D) N) ([],0)=al 0 (al 1 (Jd.none_,0) D) N:=by
 unfold al
 by_cases h:D.2=0
 · by_cases h2:N.2=0
   · simp[h,h2,nL,Jd.none_]
   · simp[h,h2,Jd.none_]
 · simp[h,Jd.none_]
theorem nn (D N R:List UInt8 × Nat):al 2 (al 0 (al 1 (Jd.none_,0) D) N) R=Jd.three D N R:=by
 unfold al Jd.three
 by_cases h:D.2=0
 · by_cases h2:N.2=0
   · by_cases h3:R.2=0
     · simp[h,h2,h3,nL,Jd.none_]
     · simp[h,h2,h3]
   · simp[h,h2]
 · simp[h]
theorem su (s:ByteArray):aR s.data.toList=s:=rfl
theorem gp (l:List UInt8):(aR l).data.toList=l:=rfl
theorem bQ (l:List UInt8):(aR l).size=l.length:=by rw[Lib.size_eq]
theorem cM (c:List UInt8 × List UInt8 × Bool):l5 c=.tuple #[.string (aR c.1),.string (aR c.2.1),.bool c.2.2]:=rfl
set_option maxHeartbeats 8000000 in
theorem q7 (s:ByteArray) (w:World) (hO:Okw w) (hs:s.size≤100000000) :
 Calls Tryz.prog 154 #[.string s] w fun e w'=>e=.returned (bs (Jd.parseL s.data.toList))∧Below w.heap.size w w':=by
 have hsz:=Lib.size_eq s;have hl1:=Jd.cutB_len 47 s.data.toList
 obtain⟨c,hc⟩:∃ c,Jd.cutB 47 s.data.toList=c:=⟨_,rfl⟩
 rw[hc] at hl1;have hl2:=Jd.half_len c.1
 obtain⟨d,hd⟩:∃ d,Jd.halfL c.1=d:=⟨_,rfl⟩
 rw[hd] at hl2;have hP:Jd.parseL s.data.toList=Jd.three (Jd.domL d.2.1) (Jd.part d.2.2 1 d.1) (Jd.part c.2.2 3 c.2.1):=by
  unfold Jd.parseL;rw[hc,hd]
 have HC:=Lib.hid (fun W (h:Below w.heap.size w W)=>m8 47 s W (hO.below h).maxl (by omega));rw[hc] at HC;have HH:=Lib.hid (fun W (h:Below w.heap.size w W)=>fI (aR c.1) W (hO.below h).maxl (by rw[bQ];omega));rw[gp,hd] at HH;have HD:=Lib.hid (fun (g:Nat) (s:sf) W (h:Below w.heap.size w W) (hg:GB W g s)=>lI g 1 s (aR d.2.1) _ _ Jd.domL W (.inr (.inl rfl)) hg (lp (hO.below h)) tG (by rw[bQ];omega));have HN0:=Lib.hid (fun W (h:Below w.heap.size w W)=>gE _ 64 64 rfl (Pr.prepL 1) W (pC (hO.below h)));have HR0:=Lib.hid (fun W (h:Below w.heap.size w W)=>gE _ 64 64 rfl (Pr.prepL 3) W (ja (hO.below h)));have HN:=Lib.hid (fun (g:Nat) (s:sf) v W (hk:ej W v fun s=>Jd.sizedL 64 (Pr.prepL 1 s)) (hg:GB W g s)=>lI g 0 s (aR d.1) v _ _ W (.inl rfl) hg hk tR (by rw[bQ];omega));have HR:=Lib.hid (fun (g:Nat) (s:sf) v W (hk:ej W v fun s=>Jd.sizedL 64 (Pr.prepL 3 s)) (hg:GB W g s)=>lI g 2 s (aR c.2.1) v _ _ W (.inr (.inr rfl)) hg hk sU (by rw[bQ];omega));rw[gp] at HD HN HR;rw[hP]
 obtain⟨x1,hx1⟩:∃ x,aR c.1=x:=⟨_,rfl⟩
 obtain⟨x2,hx2⟩:∃ x,aR c.2.1=x:=⟨_,rfl⟩
 obtain⟨x3,hx3⟩:∃ x,aR d.1=x:=⟨_,rfl⟩
 obtain⟨x4,hx4⟩:∃ x,aR d.2.1=x:=⟨_,rfl⟩
 rw[cM] at HC HH;rw[hx1] at HC HH;rw[hx2] at HC HR;rw[hx3] at HH HN;rw[hx4] at HH HD;have hN:Jd.part d.2.2 1 d.1=if d.2.2 then Jd.sizedL 64 (Pr.prepL 1 d.1) else ([],0):=rfl
 have hR:Jd.part c.2.2 3 c.2.1=if c.2.2 then Jd.sizedL 64 (Pr.prepL 3 c.2.1) else ([],0):=rfl
 rw[hN,hR]
 obtain⟨D,hD⟩:∃ D,Jd.domL d.2.1=D:=⟨_,rfl⟩
 obtain⟨N,hN⟩:∃ N,Jd.sizedL 64 (Pr.prepL 1 d.1)=N:=⟨_,rfl⟩
 obtain⟨R,hR⟩:∃ R,Jd.sizedL 64 (Pr.prepL 3 c.2.1)=R:=⟨_,rfl⟩
 rw[hD] at HD ⊢;rw[hN] at HN ⊢;rw[hR] at HR ⊢
 obtain⟨b1,hb1⟩:∃ b,c.2.2=b:=⟨_,rfl⟩
 obtain⟨b2,hb2⟩:∃ b,d.2.2=b:=⟨_,rfl⟩
 rw[hb1] at HC ⊢;rw[hb2] at HH ⊢;rw[← nn];have S0:=Lib.hid (og D);have S2:=Lib.hid (tt D);clear hsz hl1 hl2 hP hc hd hx1 hx2 hx3 hx4 hN hR hD hb1 hb2 hO hs
 obtain⟨w0,hw0⟩:∃ w0,w.alloc (.cells #[.string ⟨#[]⟩,.string ⟨#[]⟩,.string ⟨#[]⟩] 115)=w0:=⟨_,rfl⟩
 have k0:Bk w0 w.heap.size 115 #[.string ⟨#[]⟩,.string ⟨#[]⟩,.string ⟨#[]⟩]:=by rw[← hw0];exact Bk.new w _ _
 have B0:Hid (Below w.heap.size w w0):=by unfold Hid;rw[← hw0];exact(Below.refl _ w).alloc (Nat.le_refl _) _
 have hs0:w0.heap.size=w.heap.size+1:=by rw[← hw0];simp
 obtain⟨q,hq⟩:∃ q,w.heap.size=q:=⟨_,rfl⟩
 rw[hq] at k0 hs0;have K0:=Lib.hid k0;have HQ:=Lib.hid hq;clear k0;cases b2<;>cases b1
 · go_enter Tryz.func154,Tryz.ntmps154
   go_wp2_with fail
   refine(HC.out w0 B0.out).mono ?_
   rintro e w1 ⟨rfl,b1⟩;have B1:=Lib.hid (B0.out.trans (b1.mono B0.out.size));have K1:=Lib.hid (K0.out.below b1 K0.out.lt);clear b1
   go_wp2_with fail
   refine(HH.out w1 B1.out).mono ?_
   rintro e w2 ⟨rfl,b2⟩;have B2:=Lib.hid (B1.out.trans (b2.mono B1.out.size));have K2:=Lib.hid (K1.out.below b2 K1.out.lt);clear b2;have hq2:=K2.out.lt;have hz2:=B2.out.size
   obtain⟨w3,hw3⟩:∃ w3,w2.alloc (.cells #[.string ⟨#[]⟩,.string ⟨#[]⟩,.string ⟨#[]⟩,.int .i64 0] 172)=w3:=⟨_,rfl⟩
   have G3:Hid (GB w3 w2.heap.size (Jd.none_,0)):=by unfold Hid;rw[← hw3];exact Bk.new w2 _ _
   have B3:Hid (Below w.heap.size w w3):=by unfold Hid;rw[← hw3];exact B2.out.alloc hz2 _
   have K3:Hid (Bk w3 q 115 #[.string ⟨#[]⟩,.string ⟨#[]⟩,.string ⟨#[]⟩]):=by unfold Hid;rw[← hw3];exact K2.out.alloc _
   obtain⟨g,hg⟩:∃ g,w2.heap.size=g:=⟨_,rfl⟩
   rw[hg] at G3 hq2 hz2;have QG:=Lib.hid hq2;have ZG:=Lib.hid hz2;clear hq2 hz2
   go_wp2_with fail
   refine(HD.out g _ w3 B3.out G3.out).mono ?_
   rintro e w4 ⟨rfl,g4,b4⟩;have G4:=Lib.hid g4;have B4:=Lib.hid (B3.out.trans (b4.mono ZG.out));have K4:=Lib.hid (K3.out.below b4 QG.out);clear g4 b4 hw3 hg;have HE:Hid (al 2 (al 0 (al 1 (Jd.none_,0) D) (if false=true then N else ([],0))) (if false=true then R else ([],0))=al 1 (Jd.none_,0) D):=by
    unfold Hid;show al 2 (al 0 (al 1 (Jd.none_,0) D) ([],0)) ([],0)=al 1 (Jd.none_,0) D;rw[S2.out ([],0),S0.out]
   obtain⟨sF,hsF⟩:∃ sF,al 1 (Jd.none_,0) D=sF:=⟨_,rfl⟩
   rw[hsF] at G4
   obtain⟨y1,hy1⟩:∃ y,aR sF.1.1=y:=⟨_,rfl⟩
   obtain⟨y2,hy2⟩:∃ y,aR sF.1.2.1=y:=⟨_,rfl⟩
   obtain⟨y3,hy3⟩:∃ y,aR sF.1.2.2=y:=⟨_,rfl⟩
   obtain⟨y4,hy4⟩:∃ y:Int,((sF.2:Nat):Int)=y:=⟨_,rfl⟩
   have HF:Hid (bs (al 2 (al 0 (al 1 (Jd.none_,0) D) (if false=true then N else ([],0))) (if false=true then R else ([],0)))=.tuple #[.agg #[.string y1,.string y2,.string y3],.int .i64 y4]):=by unfold Hid;rw[HE.out,hsF];unfold bs sk;rw[hy1,hy2,hy3,hy4]
   have GG:Bk w4 g 172 #[.string y1,.string y2,.string y3,.int .i64 y4]:=by rw[← hy1,← hy2,← hy3,← hy4];exact G4.out
   have d0:w4.cell? ⟨g,0,none⟩=some (.string y1):=GG.cell 0;have d1:w4.cell? ⟨g,1,none⟩=some (.string y2):=GG.cell 1;have d2:w4.cell? ⟨g,2,none⟩=some (.string y3):=GG.cell 2;have d3:w4.cell? ⟨g,3,none⟩=some (.int .i64 y4):=GG.cell 3;have e0:w4.cell? ⟨q,0,none⟩=some (.string ⟨#[]⟩):=K4.out.cell 0;have f0:w4.frozen? ⟨q,0,none⟩=false:=K4.out.free 0;have e1:w4.cell? ⟨q,1,none⟩=some (.string ⟨#[]⟩):=K4.out.cell 1;have f1:w4.frozen? ⟨q,1,none⟩=false:=K4.out.free 1;have e2:w4.cell? ⟨q,2,none⟩=some (.string ⟨#[]⟩):=K4.out.cell 2;have f2:w4.frozen? ⟨q,2,none⟩=false:=K4.out.free 2;have hne:q≠g:=Nat.ne_of_lt QG.out;have hne2:g≠q:=fun e=>hne e.symm
   clear hsF hy1 hy2 hy3 hy4 GG HE
   go_wp2_with fail
   go_region
   all_goals
    go_wp2_with fail
    have KF:Bk ((((w4.setCell ⟨q,0,none⟩ (.string y1)).setCell ⟨q,1,none⟩ (.string y2)).setCell ⟨q,2,none⟩ (.string y3)).drew) q 115 #[.string y1,.string y2,.string y3]:=(((K4.out.put 0 (.string y1)).put 1 (.string y2)).put 2 (.string y3)).drew;have q0:World.cell? ((((w4.setCell ⟨q,0,none⟩ (.string y1)).setCell ⟨q,1,none⟩ (.string y2)).setCell ⟨q,2,none⟩ (.string y3)).drew) ⟨q,0,none⟩=some (.string y1):=KF.cell 0;have q1:World.cell? ((((w4.setCell ⟨q,0,none⟩ (.string y1)).setCell ⟨q,1,none⟩ (.string y2)).setCell ⟨q,2,none⟩ (.string y3)).drew) ⟨q,1,none⟩=some (.string y2):=KF.cell 1;have q2:World.cell? ((((w4.setCell ⟨q,0,none⟩ (.string y1)).setCell ⟨q,1,none⟩ (.string y2)).setCell ⟨q,2,none⟩ (.string y3)).drew) ⟨q,2,none⟩=some (.string y3):=KF.cell 2;have BF:Below q w4 ((((w4.setCell ⟨q,0,none⟩ (.string y1)).setCell ⟨q,1,none⟩ (.string y2)).setCell ⟨q,2,none⟩ (.string y3)).drew):=(Below.setCell (B:=q) (p:=⟨q,2,none⟩) (Below.setCell (B:=q) (p:=⟨q,1,none⟩) (Below.setCell (B:=q) (p:=⟨q,0,none⟩) (Below.refl q w4) (Nat.le_refl q) _) (Nat.le_refl q) _) (Nat.le_refl q) _).drew;refine bodyPost_ret (v:=.tuple #[.agg #[.string y1,.string y2,.string y3],.int .i64 y4]) (by simp[results,Tryz.results154,go_sem,q0,q1,q2]) rfl ⟨(congrArg Ending.returned HF.out).symm,?_⟩;have h:=B4.out;rw[HQ.out] at h;exact h.trans BF
 · go_enter Tryz.func154,Tryz.ntmps154
   go_wp2_with fail
   refine(HC.out w0 B0.out).mono ?_
   rintro e w1 ⟨rfl,b1⟩;have B1:=Lib.hid (B0.out.trans (b1.mono B0.out.size));have K1:=Lib.hid (K0.out.below b1 K0.out.lt);clear b1
   go_wp2_with fail
   refine(HH.out w1 B1.out).mono ?_
   rintro e w2 ⟨rfl,b2⟩;have B2:=Lib.hid (B1.out.trans (b2.mono B1.out.size));have K2:=Lib.hid (K1.out.below b2 K1.out.lt);clear b2;have hq2:=K2.out.lt;have hz2:=B2.out.size
   obtain⟨w3,hw3⟩:∃ w3,w2.alloc (.cells #[.string ⟨#[]⟩,.string ⟨#[]⟩,.string ⟨#[]⟩,.int .i64 0] 172)=w3:=⟨_,rfl⟩
   have G3:Hid (GB w3 w2.heap.size (Jd.none_,0)):=by unfold Hid;rw[← hw3];exact Bk.new w2 _ _
   have B3:Hid (Below w.heap.size w w3):=by unfold Hid;rw[← hw3];exact B2.out.alloc hz2 _
   have K3:Hid (Bk w3 q 115 #[.string ⟨#[]⟩,.string ⟨#[]⟩,.string ⟨#[]⟩]):=by unfold Hid;rw[← hw3];exact K2.out.alloc _
   obtain⟨g,hg⟩:∃ g,w2.heap.size=g:=⟨_,rfl⟩
   rw[hg] at G3 hq2 hz2;have QG:=Lib.hid hq2;have ZG:=Lib.hid hz2;clear hq2 hz2
   go_wp2_with fail
   refine(HD.out g _ w3 B3.out G3.out).mono ?_
   rintro e w4 ⟨rfl,g4,b4⟩;have G4:=Lib.hid g4;have B4:=Lib.hid (B3.out.trans (b4.mono ZG.out));have K4:=Lib.hid (K3.out.below b4 QG.out);clear g4 b4 hw3 hg
   go_wp2_with fail
   refine(HR0.out w4 B4.out).mono ?_
   rintro e w5 ⟨u5,rfl,h5,b5⟩;have G5:Hid (GB w5 g _):=Lib.hid (Bk.below G4.out b5 G4.out.lt);have B5:=Lib.hid (B4.out.trans (b5.mono B4.out.size));have K5:=Lib.hid (K4.out.below b5 K4.out.lt);have A5:=Lib.hid (HR.out g _ u5 w5 h5 G5.out)
   obtain⟨F5,c5,rfl,-,-⟩:=h5
   clear b5
   go_wp2_with fail
   refine A5.out.mono ?_;rintro e w6 ⟨rfl,g6,b6⟩;have G6:=Lib.hid g6;have B6:=Lib.hid (B5.out.trans (b6.mono ZG.out));have K6:=Lib.hid (K5.out.below b6 QG.out);clear g6 b6;have HE:Hid (al 2 (al 0 (al 1 (Jd.none_,0) D) (if false=true then N else ([],0))) (if true=true then R else ([],0))=al 2 (al 1 (Jd.none_,0) D) R):=by
    unfold Hid;show al 2 (al 0 (al 1 (Jd.none_,0) D) ([],0)) R=al 2 (al 1 (Jd.none_,0) D) R;rw[S0.out]
   obtain⟨sF,hsF⟩:∃ sF,al 2 (al 1 (Jd.none_,0) D) R=sF:=⟨_,rfl⟩
   rw[hsF] at G6
   obtain⟨y1,hy1⟩:∃ y,aR sF.1.1=y:=⟨_,rfl⟩
   obtain⟨y2,hy2⟩:∃ y,aR sF.1.2.1=y:=⟨_,rfl⟩
   obtain⟨y3,hy3⟩:∃ y,aR sF.1.2.2=y:=⟨_,rfl⟩
   obtain⟨y4,hy4⟩:∃ y:Int,((sF.2:Nat):Int)=y:=⟨_,rfl⟩
   have HF:Hid (bs (al 2 (al 0 (al 1 (Jd.none_,0) D) (if false=true then N else ([],0))) (if true=true then R else ([],0)))=.tuple #[.agg #[.string y1,.string y2,.string y3],.int .i64 y4]):=by unfold Hid;rw[HE.out,hsF];unfold bs sk;rw[hy1,hy2,hy3,hy4]
   have GG:Bk w6 g 172 #[.string y1,.string y2,.string y3,.int .i64 y4]:=by rw[← hy1,← hy2,← hy3,← hy4];exact G6.out
   have d0:w6.cell? ⟨g,0,none⟩=some (.string y1):=GG.cell 0;have d1:w6.cell? ⟨g,1,none⟩=some (.string y2):=GG.cell 1;have d2:w6.cell? ⟨g,2,none⟩=some (.string y3):=GG.cell 2;have d3:w6.cell? ⟨g,3,none⟩=some (.int .i64 y4):=GG.cell 3;have e0:w6.cell? ⟨q,0,none⟩=some (.string ⟨#[]⟩):=K6.out.cell 0;have f0:w6.frozen? ⟨q,0,none⟩=false:=K6.out.free 0;have e1:w6.cell? ⟨q,1,none⟩=some (.string ⟨#[]⟩):=K6.out.cell 1;have f1:w6.frozen? ⟨q,1,none⟩=false:=K6.out.free 1;have e2:w6.cell? ⟨q,2,none⟩=some (.string ⟨#[]⟩):=K6.out.cell 2;have f2:w6.frozen? ⟨q,2,none⟩=false:=K6.out.free 2;have hne:q≠g:=Nat.ne_of_lt QG.out;have hne2:g≠q:=fun e=>hne e.symm
   clear hsF hy1 hy2 hy3 hy4 GG HE
   go_wp2_with fail
   go_region
   all_goals
    go_wp2_with fail
    have KF:Bk ((((w6.setCell ⟨q,0,none⟩ (.string y1)).setCell ⟨q,1,none⟩ (.string y2)).setCell ⟨q,2,none⟩ (.string y3)).drew) q 115 #[.string y1,.string y2,.string y3]:=(((K6.out.put 0 (.string y1)).put 1 (.string y2)).put 2 (.string y3)).drew;have q0:World.cell? ((((w6.setCell ⟨q,0,none⟩ (.string y1)).setCell ⟨q,1,none⟩ (.string y2)).setCell ⟨q,2,none⟩ (.string y3)).drew) ⟨q,0,none⟩=some (.string y1):=KF.cell 0;have q1:World.cell? ((((w6.setCell ⟨q,0,none⟩ (.string y1)).setCell ⟨q,1,none⟩ (.string y2)).setCell ⟨q,2,none⟩ (.string y3)).drew) ⟨q,1,none⟩=some (.string y2):=KF.cell 1;have q2:World.cell? ((((w6.setCell ⟨q,0,none⟩ (.string y1)).setCell ⟨q,1,none⟩ (.string y2)).setCell ⟨q,2,none⟩ (.string y3)).drew) ⟨q,2,none⟩=some (.string y3):=KF.cell 2;have BF:Below q w6 ((((w6.setCell ⟨q,0,none⟩ (.string y1)).setCell ⟨q,1,none⟩ (.string y2)).setCell ⟨q,2,none⟩ (.string y3)).drew):=(Below.setCell (B:=q) (p:=⟨q,2,none⟩) (Below.setCell (B:=q) (p:=⟨q,1,none⟩) (Below.setCell (B:=q) (p:=⟨q,0,none⟩) (Below.refl q w6) (Nat.le_refl q) _) (Nat.le_refl q) _) (Nat.le_refl q) _).drew;refine bodyPost_ret (v:=.tuple #[.agg #[.string y1,.string y2,.string y3],.int .i64 y4]) (by simp[results,Tryz.results154,go_sem,q0,q1,q2]) rfl ⟨(congrArg Ending.returned HF.out).symm,?_⟩;have h:=B6.out;rw[HQ.out] at h;exact h.trans BF
 · go_enter Tryz.func154,Tryz.ntmps154
   go_wp2_with fail
   refine(HC.out w0 B0.out).mono ?_
   rintro e w1 ⟨rfl,b1⟩;have B1:=Lib.hid (B0.out.trans (b1.mono B0.out.size));have K1:=Lib.hid (K0.out.below b1 K0.out.lt);clear b1
   go_wp2_with fail
   refine(HH.out w1 B1.out).mono ?_
   rintro e w2 ⟨rfl,b2⟩;have B2:=Lib.hid (B1.out.trans (b2.mono B1.out.size));have K2:=Lib.hid (K1.out.below b2 K1.out.lt);clear b2;have hq2:=K2.out.lt;have hz2:=B2.out.size
   obtain⟨w3,hw3⟩:∃ w3,w2.alloc (.cells #[.string ⟨#[]⟩,.string ⟨#[]⟩,.string ⟨#[]⟩,.int .i64 0] 172)=w3:=⟨_,rfl⟩
   have G3:Hid (GB w3 w2.heap.size (Jd.none_,0)):=by unfold Hid;rw[← hw3];exact Bk.new w2 _ _
   have B3:Hid (Below w.heap.size w w3):=by unfold Hid;rw[← hw3];exact B2.out.alloc hz2 _
   have K3:Hid (Bk w3 q 115 #[.string ⟨#[]⟩,.string ⟨#[]⟩,.string ⟨#[]⟩]):=by unfold Hid;rw[← hw3];exact K2.out.alloc _
   obtain⟨g,hg⟩:∃ g,w2.heap.size=g:=⟨_,rfl⟩
   rw[hg] at G3 hq2 hz2;have QG:=Lib.hid hq2;have ZG:=Lib.hid hz2;clear hq2 hz2
   go_wp2_with fail
   refine(HD.out g _ w3 B3.out G3.out).mono ?_
   rintro e w4 ⟨rfl,g4,b4⟩;have G4:=Lib.hid g4;have B4:=Lib.hid (B3.out.trans (b4.mono ZG.out));have K4:=Lib.hid (K3.out.below b4 QG.out);clear g4 b4 hw3 hg
   go_wp2_with fail
   refine(HN0.out w4 B4.out).mono ?_
   rintro e w5 ⟨u5,rfl,h5,b5⟩;have G5:Hid (GB w5 g _):=Lib.hid (Bk.below G4.out b5 G4.out.lt);have B5:=Lib.hid (B4.out.trans (b5.mono B4.out.size));have K5:=Lib.hid (K4.out.below b5 K4.out.lt);have A5:=Lib.hid (HN.out g _ u5 w5 h5 G5.out)
   obtain⟨F5,c5,rfl,-,-⟩:=h5
   clear b5
   go_wp2_with fail
   refine A5.out.mono ?_;rintro e w6 ⟨rfl,g6,b6⟩;have G6:=Lib.hid g6;have B6:=Lib.hid (B5.out.trans (b6.mono ZG.out));have K6:=Lib.hid (K5.out.below b6 QG.out);clear g6 b6;have HE:Hid (al 2 (al 0 (al 1 (Jd.none_,0) D) (if true=true then N else ([],0))) (if false=true then R else ([],0))=al 0 (al 1 (Jd.none_,0) D) N):=by
    unfold Hid;show al 2 (al 0 (al 1 (Jd.none_,0) D) N) ([],0)=al 0 (al 1 (Jd.none_,0) D) N;exact S2.out N
   obtain⟨sF,hsF⟩:∃ sF,al 0 (al 1 (Jd.none_,0) D) N=sF:=⟨_,rfl⟩
   rw[hsF] at G6
   obtain⟨y1,hy1⟩:∃ y,aR sF.1.1=y:=⟨_,rfl⟩
   obtain⟨y2,hy2⟩:∃ y,aR sF.1.2.1=y:=⟨_,rfl⟩
   obtain⟨y3,hy3⟩:∃ y,aR sF.1.2.2=y:=⟨_,rfl⟩
   obtain⟨y4,hy4⟩:∃ y:Int,((sF.2:Nat):Int)=y:=⟨_,rfl⟩
   have HF:Hid (bs (al 2 (al 0 (al 1 (Jd.none_,0) D) (if true=true then N else ([],0))) (if false=true then R else ([],0)))=.tuple #[.agg #[.string y1,.string y2,.string y3],.int .i64 y4]):=by unfold Hid;rw[HE.out,hsF];unfold bs sk;rw[hy1,hy2,hy3,hy4]
   have GG:Bk w6 g 172 #[.string y1,.string y2,.string y3,.int .i64 y4]:=by rw[← hy1,← hy2,← hy3,← hy4];exact G6.out
   have d0:w6.cell? ⟨g,0,none⟩=some (.string y1):=GG.cell 0;have d1:w6.cell? ⟨g,1,none⟩=some (.string y2):=GG.cell 1;have d2:w6.cell? ⟨g,2,none⟩=some (.string y3):=GG.cell 2;have d3:w6.cell? ⟨g,3,none⟩=some (.int .i64 y4):=GG.cell 3;have e0:w6.cell? ⟨q,0,none⟩=some (.string ⟨#[]⟩):=K6.out.cell 0;have f0:w6.frozen? ⟨q,0,none⟩=false:=K6.out.free 0;have e1:w6.cell? ⟨q,1,none⟩=some (.string ⟨#[]⟩):=K6.out.cell 1;have f1:w6.frozen? ⟨q,1,none⟩=false:=K6.out.free 1;have e2:w6.cell? ⟨q,2,none⟩=some (.string ⟨#[]⟩):=K6.out.cell 2;have f2:w6.frozen? ⟨q,2,none⟩=false:=K6.out.free 2;have hne:q≠g:=Nat.ne_of_lt QG.out;have hne2:g≠q:=fun e=>hne e.symm
   clear hsF hy1 hy2 hy3 hy4 GG HE
   go_wp2_with fail
   go_region
   all_goals
    go_wp2_with fail
    have KF:Bk ((((w6.setCell ⟨q,0,none⟩ (.string y1)).setCell ⟨q,1,none⟩ (.string y2)).setCell ⟨q,2,none⟩ (.string y3)).drew) q 115 #[.string y1,.string y2,.string y3]:=(((K6.out.put 0 (.string y1)).put 1 (.string y2)).put 2 (.string y3)).drew;have q0:World.cell? ((((w6.setCell ⟨q,0,none⟩ (.string y1)).setCell ⟨q,1,none⟩ (.string y2)).setCell ⟨q,2,none⟩ (.string y3)).drew) ⟨q,0,none⟩=some (.string y1):=KF.cell 0;have q1:World.cell? ((((w6.setCell ⟨q,0,none⟩ (.string y1)).setCell ⟨q,1,none⟩ (.string y2)).setCell ⟨q,2,none⟩ (.string y3)).drew) ⟨q,1,none⟩=some (.string y2):=KF.cell 1;have q2:World.cell? ((((w6.setCell ⟨q,0,none⟩ (.string y1)).setCell ⟨q,1,none⟩ (.string y2)).setCell ⟨q,2,none⟩ (.string y3)).drew) ⟨q,2,none⟩=some (.string y3):=KF.cell 2;have BF:Below q w6 ((((w6.setCell ⟨q,0,none⟩ (.string y1)).setCell ⟨q,1,none⟩ (.string y2)).setCell ⟨q,2,none⟩ (.string y3)).drew):=(Below.setCell (B:=q) (p:=⟨q,2,none⟩) (Below.setCell (B:=q) (p:=⟨q,1,none⟩) (Below.setCell (B:=q) (p:=⟨q,0,none⟩) (Below.refl q w6) (Nat.le_refl q) _) (Nat.le_refl q) _) (Nat.le_refl q) _).drew;refine bodyPost_ret (v:=.tuple #[.agg #[.string y1,.string y2,.string y3],.int .i64 y4]) (by simp[results,Tryz.results154,go_sem,q0,q1,q2]) rfl ⟨(congrArg Ending.returned HF.out).symm,?_⟩;have h:=B6.out;rw[HQ.out] at h;exact h.trans BF
 · go_enter Tryz.func154,Tryz.ntmps154
   go_wp2_with fail
   refine(HC.out w0 B0.out).mono ?_
   rintro e w1 ⟨rfl,b1⟩;have B1:=Lib.hid (B0.out.trans (b1.mono B0.out.size));have K1:=Lib.hid (K0.out.below b1 K0.out.lt);clear b1
   go_wp2_with fail
   refine(HH.out w1 B1.out).mono ?_
   rintro e w2 ⟨rfl,b2⟩;have B2:=Lib.hid (B1.out.trans (b2.mono B1.out.size));have K2:=Lib.hid (K1.out.below b2 K1.out.lt);clear b2;have hq2:=K2.out.lt;have hz2:=B2.out.size
   obtain⟨w3,hw3⟩:∃ w3,w2.alloc (.cells #[.string ⟨#[]⟩,.string ⟨#[]⟩,.string ⟨#[]⟩,.int .i64 0] 172)=w3:=⟨_,rfl⟩
   have G3:Hid (GB w3 w2.heap.size (Jd.none_,0)):=by unfold Hid;rw[← hw3];exact Bk.new w2 _ _
   have B3:Hid (Below w.heap.size w w3):=by unfold Hid;rw[← hw3];exact B2.out.alloc hz2 _
   have K3:Hid (Bk w3 q 115 #[.string ⟨#[]⟩,.string ⟨#[]⟩,.string ⟨#[]⟩]):=by unfold Hid;rw[← hw3];exact K2.out.alloc _
   obtain⟨g,hg⟩:∃ g,w2.heap.size=g:=⟨_,rfl⟩
   rw[hg] at G3 hq2 hz2;have QG:=Lib.hid hq2;have ZG:=Lib.hid hz2;clear hq2 hz2
   go_wp2_with fail
   refine(HD.out g _ w3 B3.out G3.out).mono ?_
   rintro e w4 ⟨rfl,g4,b4⟩;have G4:=Lib.hid g4;have B4:=Lib.hid (B3.out.trans (b4.mono ZG.out));have K4:=Lib.hid (K3.out.below b4 QG.out);clear g4 b4 hw3 hg
   go_wp2_with fail
   refine(HN0.out w4 B4.out).mono ?_
   rintro e w5 ⟨u5,rfl,h5,b5⟩;have G5:Hid (GB w5 g _):=Lib.hid (Bk.below G4.out b5 G4.out.lt);have B5:=Lib.hid (B4.out.trans (b5.mono B4.out.size));have K5:=Lib.hid (K4.out.below b5 K4.out.lt);have A5:=Lib.hid (HN.out g _ u5 w5 h5 G5.out)
   obtain⟨F5,c5,rfl,-,-⟩:=h5
   clear b5
   go_wp2_with fail
   refine A5.out.mono ?_;rintro e w6 ⟨rfl,g6,b6⟩;have G6:=Lib.hid g6;have B6:=Lib.hid (B5.out.trans (b6.mono ZG.out));have K6:=Lib.hid (K5.out.below b6 QG.out);clear g6 b6
   go_wp2_with fail
   refine(HR0.out w6 B6.out).mono ?_
   rintro e w7 ⟨u7,rfl,h7,b7⟩;have G7:Hid (GB w7 g _):=Lib.hid (Bk.below G6.out b7 G6.out.lt);have B7:=Lib.hid (B6.out.trans (b7.mono B6.out.size));have K7:=Lib.hid (K6.out.below b7 K6.out.lt);have A7:=Lib.hid (HR.out g _ u7 w7 h7 G7.out)
   obtain⟨F7,c7,rfl,-,-⟩:=h7
   clear b7
   go_wp2_with fail
   refine A7.out.mono ?_;rintro e w8 ⟨rfl,g8,b8⟩;have G8:=Lib.hid g8;have B8:=Lib.hid (B7.out.trans (b8.mono ZG.out));have K8:=Lib.hid (K7.out.below b8 QG.out);clear g8 b8;have HE:Hid (al 2 (al 0 (al 1 (Jd.none_,0) D) (if true=true then N else ([],0))) (if true=true then R else ([],0))=al 2 (al 0 (al 1 (Jd.none_,0) D) N) R):=by
    unfold Hid;show al 2 (al 0 (al 1 (Jd.none_,0) D) N) R=al 2 (al 0 (al 1 (Jd.none_,0) D) N) R;rfl
   obtain⟨sF,hsF⟩:∃ sF,al 2 (al 0 (al 1 (Jd.none_,0) D) N) R=sF:=⟨_,rfl⟩
   rw[hsF] at G8
   obtain⟨y1,hy1⟩:∃ y,aR sF.1.1=y:=⟨_,rfl⟩
   obtain⟨y2,hy2⟩:∃ y,aR sF.1.2.1=y:=⟨_,rfl⟩
   obtain⟨y3,hy3⟩:∃ y,aR sF.1.2.2=y:=⟨_,rfl⟩
   obtain⟨y4,hy4⟩:∃ y:Int,((sF.2:Nat):Int)=y:=⟨_,rfl⟩
   have HF:Hid (bs (al 2 (al 0 (al 1 (Jd.none_,0) D) (if true=true then N else ([],0))) (if true=true then R else ([],0)))=.tuple #[.agg #[.string y1,.string y2,.string y3],.int .i64 y4]):=by unfold Hid;rw[HE.out,hsF];unfold bs sk;rw[hy1,hy2,hy3,hy4]
   have GG:Bk w8 g 172 #[.string y1,.string y2,.string y3,.int .i64 y4]:=by rw[← hy1,← hy2,← hy3,← hy4];exact G8.out
   have d0:w8.cell? ⟨g,0,none⟩=some (.string y1):=GG.cell 0;have d1:w8.cell? ⟨g,1,none⟩=some (.string y2):=GG.cell 1;have d2:w8.cell? ⟨g,2,none⟩=some (.string y3):=GG.cell 2;have d3:w8.cell? ⟨g,3,none⟩=some (.int .i64 y4):=GG.cell 3;have e0:w8.cell? ⟨q,0,none⟩=some (.string ⟨#[]⟩):=K8.out.cell 0;have f0:w8.frozen? ⟨q,0,none⟩=false:=K8.out.free 0;have e1:w8.cell? ⟨q,1,none⟩=some (.string ⟨#[]⟩):=K8.out.cell 1;have f1:w8.frozen? ⟨q,1,none⟩=false:=K8.out.free 1;have e2:w8.cell? ⟨q,2,none⟩=some (.string ⟨#[]⟩):=K8.out.cell 2;have f2:w8.frozen? ⟨q,2,none⟩=false:=K8.out.free 2;have hne:q≠g:=Nat.ne_of_lt QG.out;have hne2:g≠q:=fun e=>hne e.symm
   clear hsF hy1 hy2 hy3 hy4 GG HE
   go_wp2_with fail
   go_region
   all_goals
    go_wp2_with fail
    have KF:Bk ((((w8.setCell ⟨q,0,none⟩ (.string y1)).setCell ⟨q,1,none⟩ (.string y2)).setCell ⟨q,2,none⟩ (.string y3)).drew) q 115 #[.string y1,.string y2,.string y3]:=(((K8.out.put 0 (.string y1)).put 1 (.string y2)).put 2 (.string y3)).drew;have q0:World.cell? ((((w8.setCell ⟨q,0,none⟩ (.string y1)).setCell ⟨q,1,none⟩ (.string y2)).setCell ⟨q,2,none⟩ (.string y3)).drew) ⟨q,0,none⟩=some (.string y1):=KF.cell 0;have q1:World.cell? ((((w8.setCell ⟨q,0,none⟩ (.string y1)).setCell ⟨q,1,none⟩ (.string y2)).setCell ⟨q,2,none⟩ (.string y3)).drew) ⟨q,1,none⟩=some (.string y2):=KF.cell 1;have q2:World.cell? ((((w8.setCell ⟨q,0,none⟩ (.string y1)).setCell ⟨q,1,none⟩ (.string y2)).setCell ⟨q,2,none⟩ (.string y3)).drew) ⟨q,2,none⟩=some (.string y3):=KF.cell 2;have BF:Below q w8 ((((w8.setCell ⟨q,0,none⟩ (.string y1)).setCell ⟨q,1,none⟩ (.string y2)).setCell ⟨q,2,none⟩ (.string y3)).drew):=(Below.setCell (B:=q) (p:=⟨q,2,none⟩) (Below.setCell (B:=q) (p:=⟨q,1,none⟩) (Below.setCell (B:=q) (p:=⟨q,0,none⟩) (Below.refl q w8) (Nat.le_refl q) _) (Nat.le_refl q) _) (Nat.le_refl q) _).drew;refine bodyPost_ret (v:=.tuple #[.agg #[.string y1,.string y2,.string y3],.int .i64 y4]) (by simp[results,Tryz.results154,go_sem,q0,q1,q2]) rfl ⟨(congrArg Ending.returned HF.out).symm,?_⟩;have h:=B8.out;rw[HQ.out] at h;exact h.trans BF
-- PARSE ENDS
end Go.Proofs.YtbgaglcgennhiaaGreatDoor

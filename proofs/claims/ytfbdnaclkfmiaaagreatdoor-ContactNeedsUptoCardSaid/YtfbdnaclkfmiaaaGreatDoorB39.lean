import Derived.Test.YtfbdnaclkfmiaaaGreatDoorB38
import Derived.Test.YtfbdnaclkfmiaaaGreatDoorB13
import Derived.Test.YtfbdnaclkfmiaaaGreatDoorB03
import Derived.Lib.ConvBytes
import Derived.Lib.AtoiErrMem
import Derived.Lib.SliceRun
import Derived.Test.YtfbdnaclkfmiaaaGreatDoorB35
import Derived.Test.YtfbdnaclkfmiaaaGreatDoorB36
import Derived.Test.YtfbdnaclkfmiaaaGreatDoorB19
section
namespace Go.Proofs.YtfbdnaclkfmiaaaGreatDoor
open Go.RowKit Vc Ct
theorem infoAt2:(Tryz.prog.info? 48).map (fun i=>(i.zero,i.size,i.bytes))=some (some (.agg #[.string ⟨#[]⟩,.string ⟨#[]⟩]),2,32):=by kernel_rfl
theorem atsC_length:∀ (l:List Att),(ats l).length=l.length*2
  | []=>by rw[ats_nil];rfl
  | r::l=>by rw[ats_cons,List.length_cons,List.length_cons,atsC_length l,List.length_cons];omega
theorem atsC_cells (l:List Att):∀ u∈ats l,u.oneCell'=true:=by
  induction l with
  | nil=>intro u hu;rw[ats_nil] at hu;cases hu
  | cons r l ih =>
    intro u hu
    rw[ats_cons] at hu
    rcases List.mem_cons.1 hu with rfl | hu
    · rfl
    rcases List.mem_cons.1 hu with rfl | hu
    · rfl
    · exact ih u hu
set_option maxHeartbeats 2000000 in
set_option maxRecDepth 100000 in
theorem cloneA_any (v:Value) (l:List Att) (w:World) (hR:SeenA w v l) (hl:l.length≤1000000000) :
    Calls Tryz.prog 81 #[v] w fun e w'=>∃ v',e=.returned v'∧OwnA w.heap.size w' v' l∧Below w.heap.size w w':=by
  obtain⟨A,cap,rfl,hc⟩:=hR
  obtain⟨n,hn⟩:∃ n,l.length=n:=⟨_,rfl⟩
  have HN:=Lib.hid hn
  rw[hn] at hc hl ⊢
  have q39:∀ (w:World) (a:Option Addr) (n c n' c':Nat),(binOp .eql 39 (.slice a n c) (.slice none n' c')).run Tryz.prog w=.ok (.bool a.isNone) w:=fun w a n c n' c'=>Lib.run_eql_slice_nil w _ _ a n c n' c' Tryz.underlying39
  cases A with
  | none =>
    have h0:n=0:=by
      rcases Nat.eq_zero_or_pos n with h | h
      · exact h
      · obtain⟨b,o,e,_⟩:=hc h;cases e
    have hl0:l=[]:=List.eq_nil_of_length_eq_zero (by rw[hn,h0])
    subst hl0
    clear hc hn h0
    go_enter Tryz.func81,Tryz.ntmps81
    go_wp2_with fail
    go_ret
    exact⟨_,rfl,OwnA.nil _ _,Below.refl _ _⟩
  | some ad =>
    obtain⟨i0,hi0,hz0,hz1,hz2⟩:=info_parts infoAt2
    have hcl:∀ j u,(ats l)[j]?=some u→w.cell? (ad.add j)=some u:=by
      intro j u hj
      have hlen:(ats l).length=l.length*2:=atsC_length l
      have hjl:=(List.getElem?_eq_some_iff.1 hj).1
      obtain⟨b,o,e,_,h2⟩:=hc (by omega)
      obtain rfl:ad=⟨b,o,none⟩:=by injection e
      obtain⟨x,hx⟩:∃ x,l[j / 2]?=some x:=⟨_,List.getElem?_eq_getElem (by omega)⟩
      obtain⟨g1,g2⟩:=h2 (j / 2) x hx
      obtain⟨a1,a2⟩:=ats_get hx
      rw[add_at]
      rcases Nat.mod_two_eq_zero_or_one j with hm | hm
      · have e2:j / 2*2=j:=by omega
        rw[e2] at g1 a1
        rw[a1] at hj
        obtain rfl:=Option.some.inj hj
        exact g1
      · have e2:j / 2*2+1=j:=by omega
        rw[e2] at a2
        rw[Nat.add_assoc,e2] at g2
        rw[a2] at hj
        obtain rfl:=Option.some.inj hj
        exact g2
    have hba:0 < n→ad.block < w.heap.size:=fun h=>by
      obtain⟨b,o,e,h2,_⟩:=hc h
      obtain rfl:ad=⟨b,o,none⟩:=by injection e
      exact h2
    have HCL:Hid (∀ W,Below w.heap.size w W→∀ j u,(ats l)[j]?=some u→W.cell? (ad.add j)=some u):=fun W hW j u hj=>by
      have hlen:(ats l).length=l.length*2:=atsC_length l
      have hjl:=(List.getElem?_eq_some_iff.1 hj).1
      rw[hW.cell (by rw[addBlock];exact hba (by omega))]
      exact hcl j u hj
    have HLN:Hid ((ats l).length=n*2):=by unfold Hid;rw[atsC_length,hn]
    have HON:=Lib.hid (atsC_cells l)
    have HNB:Hid (n≤1000000000):=hl
    have HB1:Hid (∀ o,Below w.heap.size w (w.alloc o)):=fun o=>(Below.refl _ _).alloc (Nat.le_refl _) _
    clear hc hn hcl hba
    go_enter Tryz.func81,Tryz.ntmps81
    go_wp2_with (at_builtin;refine wpList_append_own _ rfl _ _ 39 rfl w.heap.size 48 i0 _ 2 32 Tryz.underlying39 hi0 hz0 hz1 hz2 rfl (by decide) _ _ _ rfl (World.ownsRow_made w #[] 0 (Nat.le_refl _) (Nat.zero_le _) (by simp)) ad n cap (ats l) rfl HLN.out (HCL.out _ (HB1.out _)) HON.out ?qc4 ?qc5 ?qc6 ?_)
    case qc4=>have:=HNB.out;unfold maxLen;omega
    case qc5=>have:=HNB.out;omega
    case qc6=>simp
    intro v' w' h1 hg hk
    have hb:Below w.heap.size w w':=((HB1.out (.cells #[] 48)).grown hg (by simp) (fun j hj=>by simp[Value.ownBlock] at hj;omega))
    have ho:OwnA w.heap.size w' v' l:=by
      unfold OwnA
      rw[HN.out]
      simpa using h1
    have HO:=Lib.hid ho
    have HB:=Lib.hid hb
    obtain⟨A5,m5,p5,rfl⟩:∃ A n cap,v'=.slice A n cap:=by obtain⟨A,cap,e⟩:=ho.slice;exact⟨A,_,cap,e⟩
    clear h1 hg hk ho hb
    go_wp2_with fail
    go_ret
    exact⟨_,rfl,HO.out,HB.out⟩
set_option maxHeartbeats 2000000 in
theorem copied_any (p:Pr) (u:Value) (W:World) (hu:SeenA W u p.2.2.1) (hl:p.2.2.1.length≤1000000000) :
    Calls Tryz.prog 33 #[agP p u] W fun e w'=>∃ v',e=.returned (agP p v')∧RowA w' v' p.2.2.1∧Below W.heap.size W w':=by
  have HCL:=Lib.hid (fun W' (h:Below W.heap.size W W')=>cloneA_any u p.2.2.1 W' (hu.below h) hl)
  obtain⟨A,cap,rfl,-⟩:=hu
  obtain⟨n,hn⟩:∃ n,p.2.2.1.length=n:=⟨_,rfl⟩
  rw[hn] at HCL ⊢
  unfold agP
  obtain⟨X0,hX0⟩:∃ X,bts p.1=X:=⟨_,rfl⟩
  obtain⟨X1,hX1⟩:∃ X,bts p.2.1=X:=⟨_,rfl⟩
  obtain⟨X3,hX3⟩:∃ X,bts p.2.2.2=X:=⟨_,rfl⟩
  rw[hX0,hX1,hX3]
  obtain⟨G,hG⟩:∃ G,W.heap.size=G:=⟨_,rfl⟩
  obtain⟨W2,hW2⟩:∃ W2,(W.alloc (.cells #[.string X0,.string X1,.slice A n cap,.string X3] 41)).alloc (.cells #[.string ⟨#[]⟩,.string ⟨#[]⟩,.slice none 0 0,.string ⟨#[]⟩] 41)=W2:=⟨_,rfl⟩
  have k1:Bk W2 G 41 #[.string X0,.string X1,.slice A n cap,.string X3]:=by rw[← hW2,← hG];exact(Bk.new _ _ _).alloc _
  have k2:Bk W2 (G+1) 41 #[.string ⟨#[]⟩,.string ⟨#[]⟩,.slice none 0 0,.string ⟨#[]⟩]:=by rw[← hW2,← hG];exact Bk.new1 _ _ _ _
  have b2:Below W.heap.size W W2:=by rw[← hW2];exact((Below.refl _ W).alloc (Nat.le_refl _) _).alloc (by simp) _
  have c2:W2.cell? ⟨G,2,none⟩=some (.slice A n cap):=k1.cell 2
  have HC2:=Lib.hid (HCL.out W2 b2)
  have K1:=Lib.hid k1
  have K2:=Lib.hid k2
  have B2:=Lib.hid b2
  have HGG:Hid (W.heap.size≤G):=by unfold Hid;omega
  clear hn hX0 hX1 hX3 k1 k2 b2 HCL hl
  go_enter Tryz.func33,Tryz.ntmps33
  go_wp2_with fail
  refine HC2.out.mono ?_
  rintro e w3 ⟨v',rfl,o3,b3⟩
  have k3:=K1.out.below b3 K1.out.lt
  have j3:=K2.out.below b3 K2.out.lt
  have f3:w3.frozen? ⟨G,2,none⟩=false:=k3.free 2
  have d3:w3.cell? ⟨G,2,none⟩=some (.slice A n cap):=k3.cell 2
  have O3:=Lib.hid o3
  have K3:=Lib.hid k3
  have J3:=Lib.hid j3
  have B3:Hid (Below W.heap.size W w3):=B2.out.trans (b3.mono B2.out.size)
  obtain⟨A5,m5,p5,rfl⟩:∃ A n cap,v'=.slice A n cap:=by obtain⟨A,cap,e⟩:=o3.slice;exact⟨A,_,cap,e⟩
  clear o3 k3 j3 b3 hW2 hG
  go_upto_region 2 with fail
  obtain⟨W4,hW4⟩:∃ W4,w3.setCell ⟨G,2,none⟩ (.slice A5 m5 p5)=W4:=⟨_,rfl⟩
  have K4:Hid (Bk W4 G 41 #[.string X0,.string X1,.slice A5 m5 p5,.string X3]):=by rw[← hW4];exact K3.out.put 2 _
  have J4:Hid (Bk W4 (G+1) 41 #[.string ⟨#[]⟩,.string ⟨#[]⟩,.slice none 0 0,.string ⟨#[]⟩]):=by rw[← hW4];exact J3.out.far (by show G+1≠G;omega) _
  have B4:Hid (Below W.heap.size W W4):=by rw[← hW4];exact B3.out.setCell (p:=⟨G,2,none⟩) HGG.out _
  have A4:Hid (RowA W4 (.slice A5 m5 p5) p.2.2.1):=by
    rw[← hW4]
    exact O3.out.row.keep (KeepA.set (show Bk w3 G 41 _ from K3.out) (by decide) 2 _)
  have q0:W4.cell? ⟨G,0,none⟩=some (.string X0):=K4.out.cell 0
  have q1:W4.cell? ⟨G,1,none⟩=some (.string X1):=K4.out.cell 1
  have q2:W4.cell? ⟨G,2,none⟩=some (.slice A5 m5 p5):=K4.out.cell 2
  have q3:W4.cell? ⟨G,3,none⟩=some (.string X3):=K4.out.cell 3
  obtain⟨v0,d0⟩:∃ v,W4.cell? ⟨G+1,0,none⟩=some v:=⟨_,J4.out.cell 0⟩
  obtain⟨v1,d1⟩:∃ v,W4.cell? ⟨G+1,1,none⟩=some v:=⟨_,J4.out.cell 1⟩
  obtain⟨v2,d2⟩:∃ v,W4.cell? ⟨G+1,2,none⟩=some v:=⟨_,J4.out.cell 2⟩
  obtain⟨v3,d3⟩:∃ v,W4.cell? ⟨G+1,3,none⟩=some v:=⟨_,J4.out.cell 3⟩
  have e0:W4.frozen? ⟨G+1,0,none⟩=false:=J4.out.free 0
  have e1:W4.frozen? ⟨G+1,1,none⟩=false:=J4.out.free 1
  have e2:W4.frozen? ⟨G+1,2,none⟩=false:=J4.out.free 2
  have e3:W4.frozen? ⟨G+1,3,none⟩=false:=J4.out.free 3
  rw[hW4]
  clear hW4 f3
  go_wp2_with fail
  obtain⟨W5,hW5⟩:∃ W5,(((W4.setCell ⟨G+1,0,none⟩ (.string X0)).setCell ⟨G+1,1,none⟩ (.string X1)).setCell ⟨G+1,2,none⟩ (.slice A5 m5 p5)).setCell ⟨G+1,3,none⟩ (.string X3)=W5:=⟨_,rfl⟩
  have k5:Bk W5 (G+1) 41 #[.string X0,.string X1,.slice A5 m5 p5,.string X3]:=by
    rw[← hW5]
    exact(((J4.out.put 0 (.string X0)).put 1 (.string X1)).put 2 (.slice A5 m5 p5)).put 3 (.string X3)
  have hg1:W.heap.size≤G+1:=by have:=HGG.out;omega
  have b5:Below W.heap.size W W5:=by
    rw[← hW5]
    exact(((B4.out.setCell (p:=⟨G+1,0,none⟩) hg1 _).setCell (p:=⟨G+1,1,none⟩) hg1 _).setCell (p:=⟨G+1,2,none⟩) hg1 _).setCell (p:=⟨G+1,3,none⟩) hg1 _
  have a5:RowA W5 (.slice A5 m5 p5) p.2.2.1:=by
    rw[← hW5]
    have h0:=KeepA.set J4.out (by decide) 0 (.string X0)
    have h1:=KeepA.set (J4.out.put 0 (.string X0)) (by decide) 1 (.string X1)
    have h2:=KeepA.set ((J4.out.put 0 (.string X0)).put 1 (.string X1)) (by decide) 2 (.slice A5 m5 p5)
    have h3:=KeepA.set (((J4.out.put 0 (.string X0)).put 1 (.string X1)).put 2 (.slice A5 m5 p5)) (by decide) 3 (.string X3)
    exact A4.out.keep (h0.trans (h1.trans (h2.trans h3)))
  have z0:=k5.cell 0
  have z1:=k5.cell 1
  have z2:=k5.cell 2
  have z3:=k5.cell 3
  rw[hW5]
  refine bodyPost_ret (v:=.agg #[.string X0,.string X1,.slice A5 m5 p5,.string X3]) (by simp[results,Tryz.results33,go_sem,z0,z1,z2,z3]) rfl ⟨_,rfl,a5,b5⟩
end Go.Proofs.YtfbdnaclkfmiaaaGreatDoor
end
section
namespace Go.Proofs.YtfbdnaclkfmiaaaGreatDoor
open Go.RowKit Vc Ct
set_option maxHeartbeats 4000000 in
set_option maxRecDepth 100000 in
theorem eachP_any (v:Value) (l:List Pr) (W:World) (hR:SeenP W v l) (hl:l.length≤1000000) (hfew:∀ p∈l,p.2.2.1.length≤1000000000) :
    Calls Tryz.prog 32 #[v,.func (.func 33) #[] #[]] W fun e w'=>∃ v',e=.returned v'∧OwnP W.heap.size w' v' l∧Below W.heap.size W w':=by
  obtain⟨A,cap,rfl,hcell⟩:=hR
  obtain⟨n,hn⟩:∃ n,l.length=n:=⟨_,rfl⟩
  have HN:=Lib.hid hn
  rw[hn] at hcell hl ⊢
  have HC:=Lib.hid hcell
  have HFW:=Lib.hid hfew
  obtain⟨B,hB⟩:∃ B,W.heap.size=B:=⟨_,rfl⟩
  have HBD:=Lib.hid hB
  have HO0:Hid (OwnP B W (.slice none 0 0) (l.take 0)):=OwnP.nil _ _
  have HB0:Hid (Below B W W):=Below.refl _ _
  clear hcell hn hfew hB
  go_enter Tryz.func32,Tryz.ntmps32
  go_wp2_with fail
  go_loopw [5,10] (fun ov iv wr=>∃ (k:Nat) (ox:Value),ov=ox∧iv=.int .i64 k∧k≤n∧Hid (OwnP B wr ox (l.take k))∧Hid (Below B W wr)) (fun _ iv _=>n - (intOf iv).toNat)
  case atStart=>exact⟨0,_,rfl,rfl,Nat.zero_le _,HO0,HB0⟩
  case round =>
    obtain⟨k,ox,hox,rfl,hk,OS,BW⟩:=hrel
    have hox2:=hox.symm
    subst hox2
    clear hox
    by_cases hlt:k < n
    · obtain⟨ad,rfl,hlb,hcell⟩:=HC.out (by omega)
      obtain⟨p,hp⟩:∃ p,l[k]?=some p:=⟨_,List.getElem?_eq_getElem (by rw[HN.out];exact hlt)⟩
      obtain⟨u,hat,hru⟩:=hcell k p hp
      have bw:Below W.heap.size W wr:=by rw[HBD.out];exact BW.out
      obtain⟨c0,c1,c2,c3⟩:=hat.of (w':=wr) (bw.block _ (by rw[addBlock];exact hlb))
      have HRU:=Lib.hid (hru.below bw)
      have hpf:=HFW.out p (List.mem_of_getElem? hp)
      have HPF:=Lib.hid hpf
      obtain⟨UA,ucap,hua,-⟩:=hru
      obtain⟨un,hun⟩:∃ un,p.2.2.1.length=un:=⟨_,rfl⟩
      rw[hun] at hua
      subst hua
      obtain⟨x0,e0⟩:∃ a,bts p.1=a:=⟨_,rfl⟩
      obtain⟨x1,e1⟩:∃ a,bts p.2.1=a:=⟨_,rfl⟩
      obtain⟨x3,e3⟩:∃ a,bts p.2.2.2=a:=⟨_,rfl⟩
      have HAG:Hid (∀ u,agP p u=.agg #[.string x0,.string x1,u,.string x3]):=fun u=>by unfold agP;rw[e0,e1,e3]
      have HEP:Hid (∀ u,encP (p,u)=[.string x0,.string x1,u,.string x3]):=fun u=>by rw[← e0,← e1,← e3];rfl
      rw[e0] at c0
      rw[e1] at c1
      rw[e3] at c3
      have htk:Hid (l.take (k+1)=l.take k++[p]):=by unfold Hid;rw[List.take_add_one,hp];rfl
      obtain⟨tb,htb⟩:∃ tb,wr.heap.size=tb:=⟨_,rfl⟩
      obtain⟨W5,hW5⟩:∃ W5,wr.alloc (.cells #[.string x0,.string x1,.slice UA un ucap,.string x3] 41)=W5:=⟨_,rfl⟩
      have b5:Below wr.heap.size wr W5:=by rw[← hW5];exact(Below.refl _ _).alloc (Nat.le_refl _) _
      have k5:Bk W5 tb 41 #[.string x0,.string x1,.slice UA un ucap,.string x3]:=by rw[← hW5,← htb];exact Bk.new _ _ _
      have t0:W5.cell? ⟨tb,0,none⟩=some (.string x0):=k5.cell 0
      have t1:W5.cell? ⟨tb,1,none⟩=some (.string x1):=k5.cell 1
      have t2:W5.cell? ⟨tb,2,none⟩=some (.slice UA un ucap):=k5.cell 2
      have t3:W5.cell? ⟨tb,3,none⟩=some (.string x3):=k5.cell 3
      have hcp:=copied_any p (.slice UA un ucap) W5 (HRU.out.below b5) HPF.out
      have hcp2:=hcp.mono (R':=fun e w'=>∃ v',e=.returned (.agg #[.string x0,.string x1,v',.string x3])∧RowA w' v' p.2.2.1∧Below W5.heap.size W5 w') (by
        rintro e w' ⟨v',h1,h2,h3⟩
        exact⟨v',h1.trans (by rw[HAG.out]),h2,h3⟩)
      rw[HAG.out] at hcp2
      have HCP:=Lib.hid hcp2
      have B5:=Lib.hid b5
      have HZ:Hid (B≤wr.heap.size):=by have:=bw.size;have:=HBD.out;unfold Hid;omega
      clear hcell hat hp hun e0 e1 e3 bw b5 k5 hpf hlb hcp hcp2
      go_wp2_with fail
      refine HCP.out.mono ?_
      rintro e w6 ⟨cv,rfl,ra,b6⟩
      have O6:Hid (OwnP B w6 ox (l.take k)):=(OS.out.below B5.out).below b6
      have B6:Hid (Below B W w6):=(BW.out.trans (B5.out.mono HZ.out)).trans (b6.mono (by have:=HZ.out;have:=B5.out.size;omega))
      obtain⟨ks,hks,hown,hrk⟩:=O6.out
      have hkl:ks.length=k:=by
        have q:=congrArg List.length hks
        rw[List.length_map,List.length_take,HN.out] at q
        omega
      rw[hkl] at hown
      obtain⟨OA,ocap,rfl⟩:=row_slice hown
      obtain⟨CA,cn,ccap,hcv⟩:∃ A n cap,cv=.slice A n cap:=by obtain⟨A,cap,e,_⟩:=ra;exact⟨A,_,cap,e⟩
      subst hcv
      have HRA:=Lib.hid ra
      have HKS:=Lib.hid hks
      have HKL:=Lib.hid hkl
      have HOW:=Lib.hid hown
      have HRK:=Lib.hid hrk
      have hb1:Hid ((k+1)*72≤140737488355328):=by unfold Hid;omega
      have hb2:Hid (k≤1000000000):=by unfold Hid;omega
      have Z6:Hid (B≤w6.heap.size):=by have:=b6.size;have:=B5.out.size;have:=HZ.out;unfold Hid;omega
      have hon:Hid (∀ u∈encP (p,Value.slice CA cn ccap),u.oneCell'=true):=fun u hu=>by
        rw[HEP.out] at hu
        simp only[List.mem_cons,List.not_mem_nil,or_false] at hu
        rcases hu with rfl | rfl | rfl | rfl<;>rfl
      clear ra hks hkl hown hrk t0 t1 t2 t3 b6
      go_wp2_with (at_builtin;refine push_gen Tryz.underlying22 infoPr4 rfl (by decide) rfl _ _ rfl B (.slice OA k ocap) k (prv ks) (encP (p,Value.slice CA cn ccap)) #[.string x0,.string x1,.slice CA cn ccap,.string x3] (by rw[HEP.out]) rfl w6 rfl HOW.out rfl hon.out hb1.out hb2.out Z6.out ?_)
      intro v7 w7 o7 b7 h7
      have hka:KeepA w6 w7:=fun g cs hg=>(h7 g hg.lt (fun e=>by
        rcases HOW.out.2 with ⟨e2,_⟩ | ⟨g2,c2,cur2,e2,_,hh2,_⟩
        · rw[e2] at e;cases e
        · rw[e2] at e
          injection e with e
          subst e
          exact Bk.type_ne hg (show Bk w6 _ 41 cur2 from hh2) (by decide) rfl)).trans hg
      have S7:Hid (OwnP B w7 v7 (l.take (k+1))):=by
        refine⟨ks++[(p,Value.slice CA cn ccap)],?_,?_,fun x hx=>?_⟩
        · rw[htk.out,List.map_append,HKS.out];rfl
        · rw[prv_snoc,List.length_append,HKL.out]
          exact o7
        · rcases List.mem_append.1 hx with hx | hx
          · exact(HRK.out x hx).keep hka
          · rw[List.mem_singleton] at hx
            rw[hx]
            exact HRA.out.keep hka
      have B7:Hid (Below B W w7):=B6.out.trans b7
      obtain⟨A7,m7,p7,rfl⟩:∃ A n cap,v7=.slice A n cap:=by obtain⟨A,cap,e⟩:=row_slice o7;exact⟨A,_,cap,e⟩
      clear o7 b7 h7 hka
      go_wp2_with fail
      go_roundw
      case rel=>exact⟨k+1,_,rfl,by go_num,by omega,S7,B7⟩
      case measure=>simp[intOf];omega
    · have hkn:l.take k=l:=List.take_of_length_le (by rw[HN.out];omega)
      have O8:=OS.out
      rw[hkn] at O8
      have O9:=Lib.hid O8
      obtain⟨A9,c9,rfl⟩:=O8.slice
      clear O8 hkn
      go_wp2_with fail
      go_ret
      exact⟨_,rfl,by rw[HBD.out];exact O9.out,by rw[HBD.out];exact BW.out⟩
end Go.Proofs.YtfbdnaclkfmiaaaGreatDoor
end
section
namespace Go.Proofs.YtfbdnaclkfmiaaaGreatDoor.Ct
open Go.Proofs.YtfbdnaclkfmiaaaGreatDoor Tx Vc
theorem cons_erase:∀ {l:List Nat} {a:Nat} (h:a < l.length),(l[a]::l.eraseIdx a).Perm l
  | x::t,0,_=>List.Perm.refl _
  | x::t,a+1,h=>by
    have h2:a < t.length:=by simpa using h
    have:=cons_erase (l:=t) (a:=a) h2
    show (t[a]::x::t.eraseIdx a).Perm (x::t)
    exact(List.Perm.swap _ _ _).trans (this.cons x)
theorem found_nodup (l:List Pr):((foundF l).2.1.map (·.1)++(foundF l).1).Nodup:=by
  have:∀ (l:List Pr) (s:Fs),(s.2.1.map (·.1)++s.1).Nodup→((l.foldl stepF s).2.1.map (·.1)++(l.foldl stepF s).1).Nodup:=by
    intro l
    induction l with
    | nil=>exact fun s h=>h
    | cons p t ih =>
      intro s h
      rw[List.foldl_cons]
      refine ih _ ?_
      cases hf:s.1.findIdx? (fun i=>hasB i p) with
      | none =>
        have e:stepF s p=(s.1,s.2.1,s.2.2++[p]):=by unfold stepF;rw[hf]
        rw[e]
        exact h
      | some a =>
        have e:stepF s p=(s.1.eraseIdx a,s.2.1++[(s.1.getD a 0,p)],s.2.2):=by unfold stepF;rw[hf]
        obtain⟨ha,-,-⟩:=List.findIdx?_eq_some_iff_getElem.1 hf
        have hgd:s.1.getD a 0=s.1[a]:=by rw[List.getD_eq_getElem?_getD,List.getElem?_eq_getElem ha];rfl
        rw[e]
        show ((s.2.1++[(s.1.getD a 0,p)]).map (·.1)++s.1.eraseIdx a).Nodup
        rw[List.map_append,List.append_assoc]
        refine(List.Perm.nodup_iff ?_).2 h
        refine List.Perm.append_left _ ?_
        show (s.1.getD a 0::s.1.eraseIdx a).Perm s.1
        rw[hgd]
        exact cons_erase ha
  exact this l (allK,[],[]) (by decide)
theorem kind_fresh {α:Type} {fs:List (Nat × α)} {k:Nat} {x:Nat × α} (h:(fs.map (·.1)).Nodup) (hx:fs[k]?=some x):x.1 ∉ (fs.take k).map (·.1):=by
  have h2:((fs.take (k+1)).map (·.1)).Nodup:=h.sublist ((List.take_sublist _ _).map _)
  rw[List.take_add_one,hx,List.map_append] at h2
  exact fun hm=>(List.nodup_append.1 h2).2.2 _ hm _ (by simp) rfl
theorem sized_le (m:Nat) (r:List UInt8 × Nat):(Jd.sizedL m r).1.length≤m:=by
  unfold Jd.sizedL
  split
  · split
    · exact Nat.zero_le _
    · rename_i h
      exact Nat.le_of_not_lt fun k=>h (.inr k)
  · exact Nat.zero_le _
theorem dom_le (s:List UInt8):(Jd.domL s).1.length≤100:=by
  unfold Jd.domL Jd.pieced
  split
  · split
    · exact Nat.zero_le _
    · exact sized_le _ _
  · exact Nat.zero_le _
theorem part_le (is:Bool) (k:Nat) (s:List UInt8):(Jd.part is k s).1.length≤64:=by
  unfold Jd.part
  split
  · exact sized_le _ _
  · exact Nat.zero_le _
theorem bare_len (s:List UInt8):(Jd.bareL s).1.length≤1000:=by
  have h3:∀ D N R:List UInt8 × Nat,D.1.length≤100→N.1.length≤64→R.1.length≤64→(Jd.textL (Jd.three D N R).1).length≤1000:=by
    intro D N R hD hN hR
    unfold Jd.three
    have e:(Jd.textL Jd.none_).length≤1000:=by decide
    split
    · exact e
    split
    · exact e
    split
    · exact e
    · unfold Jd.textL
      rw[List.length_append]
      split<;>split<;>simp<;>omega
  unfold Jd.bareL
  split
  · split
    · exact h3 _ _ _ (dom_le _) (part_le _ _ _) (part_le _ _ _)
    · exact Nat.zero_le _
  · exact Nat.zero_le _
theorem all_lens:∀ {parts xs:List (List UInt8)},allP parts=some xs→xs.length=parts.length∧∀ N,(∀ x∈parts,x.length≤N)→∀ x∈xs,x.length≤N
  | [],xs,h=>by
    obtain rfl:[]=xs:=Option.some.inj h
    exact⟨rfl,fun _ _ x hx=>by cases hx⟩
  | z :: t,xs,h=>by
    rw[allP] at h
    cases hz:plain z with
    | none=>rw[hz] at h;cases h
    | some y =>
      rw[hz] at h
      obtain⟨ys,h2,rfl⟩:=Option.map_eq_some_iff.1 h
      obtain⟨k1,k2⟩:=all_lens h2
      refine⟨by simp[k1],fun N hN x hx=>?_⟩
      rcases List.mem_cons.1 hx with rfl | hx
      · exact Nat.le_trans (plainC_len _ z _ (Nat.le_refl _) hz) (hN z List.mem_cons_self)
      · exact k2 N (fun q hq=>hN q (List.mem_cons_of_mem _ hq)) x hx
theorem groupsL_len (l:List (List UInt8)):(groupsL l).length≤l.length:=by
  rw[← groups_way]
  refine Nat.le_trans (List.length_filter_le _ _) (Nat.le_trans (compact_le _) ?_)
  rw[List.length_mergeSort]
  exact Nat.le_refl _
def Low (N:Nat) (c:Con):Prop:=(∀ x∈[c.name,c.family,c.given,c.nick,c.jid,c.email,c.tel,c.note,c.uid],x.length≤N)∧c.groups.length≤N∧∀ g∈c.groups,g.length≤N
theorem low_iff {N:Nat} {c:Con}:(∀ x∈[c.name,c.family,c.given,c.nick,c.jid,c.email,c.tel,c.note,c.uid],x.length≤N)↔c.name.length≤N∧c.family.length≤N∧c.given.length≤N∧c.nick.length≤N∧c.jid.length≤N∧c.email.length≤N∧c.tel.length≤N∧c.note.length≤N∧c.uid.length≤N:=by
  simp only[List.forall_mem_cons,List.not_mem_nil,false_imp_iff,implies_true,and_true]
theorem low_none (N:Nat):Low N noneC:=by
  refine⟨low_iff.2 ?_,Nat.zero_le _,fun g hg=>by cases hg⟩
  refine⟨?_,?_,?_,?_,?_,?_,?_,?_,?_⟩<;>exact Nat.zero_le _
theorem low_put {N i:Nat} {xs:List (List UInt8)} {c:Con} (h:Low N c) (hl:xs.length≤N) (hx:∀ x∈xs,x.length≤N) (hN:1000≤N) (h0:(putR i xs c).1=0):Low N (putR i xs c).2:=by
  obtain⟨h1,h2,h3⟩:=h
  obtain⟨a1,a2,a3,a4,a5,a6,a7,a8,a9⟩:=low_iff.1 h1
  have hd:(xs.headD []).length≤N:=by
    cases xs with
    | nil=>exact Nat.zero_le _
    | cons x t=>exact hx x List.mem_cons_self
  unfold putR at h0 ⊢
  split
  · rename_i hi
    rw[if_pos hi] at h0
    by_cases hf:∃ a b,xs=[a,b,[],[],[]]
    · obtain⟨a,b,rfl⟩:=hf
      exact⟨low_iff.2 ⟨a1,hx a (by simp),hx b (by simp),a4,a5,a6,a7,a8,a9⟩,h2,h3⟩
    · rw[five_ok (fun a b e=>hf ⟨a,b,e⟩)] at h0
      cases h0
  split
  · exact⟨h1,Nat.le_trans (groupsL_len xs) hl,fun g hg=>hx g (((groups_rising xs).2 g).1 hg).1⟩
  split
  · exact⟨low_iff.2 ⟨a1,a2,a3,a4,Nat.le_trans (bare_len _) hN,a6,a7,a8,a9⟩,h2,h3⟩
  · unfold setC
    split
    · exact⟨low_iff.2 ⟨hd,a2,a3,a4,a5,a6,a7,a8,a9⟩,h2,h3⟩
    split
    · exact⟨low_iff.2 ⟨a1,a2,a3,hd,a5,a6,a7,a8,a9⟩,h2,h3⟩
    split
    · exact⟨low_iff.2 ⟨a1,a2,a3,a4,a5,hd,a7,a8,a9⟩,h2,h3⟩
    split
    · exact⟨low_iff.2 ⟨a1,a2,a3,a4,a5,a6,hd,a8,a9⟩,h2,h3⟩
    split
    · exact⟨low_iff.2 ⟨a1,a2,a3,a4,a5,a6,a7,hd,a9⟩,h2,h3⟩
    · exact⟨low_iff.2 ⟨a1,a2,a3,a4,a5,a6,a7,a8,hd⟩,h2,h3⟩
theorem parts_lens (i:Nat) (v:List UInt8):(partsK i v).length≤v.length+1∧∀ x∈partsK i v,x.length≤v.length:=by
  unfold partsK
  split
  · exact split_lens _ _
  split
  · exact split_lens _ _
  · refine⟨by simp,fun x hx=>?_⟩
    rw[List.mem_singleton] at hx
    rw[hx,List.length_drop]
    omega
theorem low_read {N i:Nat} {v:List UInt8} {c:Con} (h6:i=6→c.groups=[]) (h:Low N c) (hv:v.length < N) (hN:1000≤N) (h0:(readC i v c).1=0):Low N (readC i v c).2:=by
  obtain⟨r1,r2⟩:=read_parts (i:=i) (v:=v) (c:=c) h6
  obtain⟨p1,p2⟩:=parts_lens i v
  cases ha:allP (partsK i v) with
  | none=>rw[r1 ha] at h0;cases h0
  | some xs =>
    obtain⟨k1,k2⟩:=r2 xs ha
    obtain⟨l1,l2⟩:=all_lens ha
    rw[k2 h0]
    exact low_put h (by omega) (l2 N fun x hx=>by have:=p2 x hx;omega) hN (by rw[← k1];exact h0)
theorem cost_found (l:List Pr):costC (foundF l).2.2≤costC l:=by
  have:∀ (l:List Pr) (s:Fs),costC (l.foldl stepF s).2.2≤costC s.2.2+costC l:=by
    intro l
    induction l with
    | nil=>exact fun s=>Nat.le_add_right _ _
    | cons p t ih =>
      intro s
      rw[List.foldl_cons]
      refine Nat.le_trans (ih _) ?_
      rw[costC_cons]
      unfold stepF
      split
      · show costC (s.2.2++[p])+costC t≤_
        rw[costC_app,costC_cons,costC_nil]
        omega
      · show costC s.2.2+costC t≤_
        omega
  have h:=this l (allK,[],[])
  rw[costC_nil] at h
  unfold foundF
  omega
end Go.Proofs.YtfbdnaclkfmiaaaGreatDoor.Ct
namespace Go.Proofs.YtfbdnaclkfmiaaaGreatDoor
open Go.RowKit Vc Ct
theorem kread_any {i:Nat} (hi:i < 9) (b:Nat→Nat) (v:List UInt8) (hv:v.take (kstart i).length=kstart i) (hvl:v.length≤100000) (g:Nat) (c:Con) (gv o:Value) (W0:World) (hO:OkwV W0) (hP:PutAs W0 g i (putV b i) c gv o) (h6:i=6→c.groups=[]) :
    Calls Tryz.prog 31 #[.agg (encK b i).toArray,.string (bts v),.pointer (some ⟨g,0,none⟩)] W0 (ReadE W0 g i (readC i v c) gv o):=by
  by_cases h1:i=1
  · subst h1
    exact readMany_any hi 59 rfl rfl b v hv hvl g c gv o W0 hO hP h6
  by_cases hi6:i=6
  · subst hi6
    exact readMany_any hi 44 rfl rfl b v hv hvl g c gv o W0 hO hP h6
  exact readOne_any hi h1 hi6 b v hv hvl g c gv o W0 hO hP h6
theorem encF_len (b:Nat→Nat) (x:Nat × PrV):(encF b x).length=9:=by unfold encF;rw[List.length_append,encK_len];rfl
theorem fns_get (b:Nat→Nat):∀ {zs:List (Nat × PrV)} {j i:Nat} {z:Nat × PrV},zs[j]?=some z→i < 9→(fns b zs)[j*9+i]?=(encF b z)[i]?
  | [],j,i,z,h,_=>by simp at h
  | a::l,0,i,z,h,hi=>by
    obtain rfl:a=z:=by simpa using h
    unfold fns
    rw[List.flatMap_cons,Nat.zero_mul,Nat.zero_add,List.getElem?_append_left (by rw[encF_len];omega)]
  | a::l,j+1,i,z,h,hi=>by
    have:=fns_get b (zs:=l) (j:=j) (i:=i) (z:=z) (by simpa using h) hi
    unfold fns at this ⊢
    rw[List.flatMap_cons,List.getElem?_append_right (by rw[encF_len];omega),← this,encF_len]
    congr 1
    omega
end Go.Proofs.YtfbdnaclkfmiaaaGreatDoor
end
section
namespace Go.Proofs.YtfbdnaclkfmiaaaGreatDoor
open Go.RowKit Vc Ct Tx
theorem text_lenN (j:Jd.J):(Jd.textL j).length≤j.1.length+j.2.1.length+j.2.2.length+2:=by
  unfold Jd.textL
  rw[List.length_append]
  split<;>split<;>simp<;>omega
theorem near_lenN (s:List UInt8) (k:Nat):(nearJ s k).length≤300:=by
  have h:=near_key s k
  unfold Jd.bareL at h
  by_cases hp:(Jd.parseL (nearJ s k)).2=0
  · rw[if_pos hp] at h
    by_cases hr:(Jd.parseL (nearJ s k)).1.2.2=[]
    · rw[if_pos hr] at h
      have e:=congrArg Prod.fst h
      simp only at e
      have hl:=Jd.parse_len (show Jd.parseL (nearJ s k)=((Jd.parseL (nearJ s k)).1,0) from Prod.ext rfl hp)
      have ht:=text_lenN (Jd.parseL (nearJ s k)).1
      rw[e] at ht
      omega
    · rw[if_neg hr] at h
      exact absurd (congrArg Prod.snd h) (by simp)
  · rw[if_neg hp] at h
    exact absurd (congrArg Prod.snd h) hp
theorem Ct.Near.low {d:Con} (h:Near d):Low 1000 d:=by
  obtain⟨l,hg,hl,hx⟩:=h.groups
  have n0:=Ct.line_len (n:=100) h.name
  have n1:=Ct.line_len (n:=50) h.family
  have n2:=Ct.line_len (n:=50) h.given
  have n3:=Ct.line_len (n:=50) h.nick
  have n5:=Ct.line_len (n:=50) h.email
  have n6:=Ct.line_len (n:=50) h.tel
  have n7:=Ct.line_len (n:=200) h.note
  have n8:=Ct.line_len (n:=50) h.uid
  have n4:d.jid.length≤300:=by
    rcases h.jid with e | ⟨s,k,e⟩
    · rw[e];exact Nat.zero_le _
    · rw[e];exact near_lenN s k
  refine⟨fun x hx=>?_,by rw[hg];have:=groups_len l;omega,fun g hm=>?_⟩
  · simp only[List.mem_cons,List.not_mem_nil,or_false] at hx
    rcases hx with e | e | e | e | e | e | e | e | e<;>rw[e]<;>omega
  · rw[hg] at hm
    have:=Ct.line_len (n:=30) (hx g (((groups_rising l).2 g).1 hm).1)
    omega
theorem low_of {N:Nat} {c:Con} (h0:c.name.length≤N) (h1:c.family.length≤N) (h2:c.given.length≤N) (h3:c.nick.length≤N) (h4:c.jid.length≤N) (h5:c.email.length≤N) (h6:c.tel.length≤N) (h7:c.note.length≤N) (h8:c.uid.length≤N) (hg:c.groups.length≤N) (hgs:∀ g∈c.groups,g.length≤N):Low N c:=by
  refine⟨fun x hx=>?_,hg,hgs⟩
  simp only[List.mem_cons,List.not_mem_nil,or_false] at hx
  rcases hx with e | e | e | e | e | e | e | e | e<;>rw[e]<;>assumption
theorem worse_low (k:Nat) (d:Con) (h:Low 1000 d):Low 1000 (worse k d):=by
  obtain⟨ht,hg,hgs⟩:=h
  have h0:d.name.length≤1000:=ht d.name (by simp)
  have h1:d.family.length≤1000:=ht d.family (by simp)
  have h2:d.given.length≤1000:=ht d.given (by simp)
  have h3:d.nick.length≤1000:=ht d.nick (by simp)
  have h4:d.jid.length≤1000:=ht d.jid (by simp)
  have h5:d.email.length≤1000:=ht d.email (by simp)
  have h6:d.tel.length≤1000:=ht d.tel (by simp)
  have h7:d.note.length≤1000:=ht d.note (by simp)
  have h8:d.uid.length≤1000:=ht d.uid (by simp)
  have hll:longL.length≤1000:=by decide +kernel
  clear ht
  unfold worse
  split
  · exact low_of (by simp) h1 h2 h3 h4 h5 h6 h7 h8 hg hgs
  · exact low_of h0 h1 h2 hll h4 h5 h6 h7 h8 hg hgs
  · exact low_of h0 h1 h2 h3 h4 h5 (by simp) h7 h8 hg hgs
  · exact low_of h0 h1 h2 h3 h4 h5 h6 (by simp) h8 hg hgs
  · exact low_of h0 h1 h2 h3 (by simp) h5 h6 h7 h8 hg hgs
  · exact low_of h0 h1 h2 h3 (by simp) h5 h6 h7 h8 hg hgs
  · exact low_of h0 h1 h2 h3 h4 h5 h6 h7 h8 (by simp) (by simp)
  · exact low_of h0 h1 h2 h3 h4 h5 h6 h7 h8 (by simp) (by simp)
  · exact low_of h0 h1 h2 h3 h4 h5 h6 h7 h8 hg hgs
  · exact low_of h0 h1 h2 h3 h4 h5 h6 h7 (by simp) hg hgs
theorem worse_cost (k:Nat) (d:Con) (h:d.other=[]):costC (worse k d).other≤1000:=by
  have e:(worse k d).other=[]∨(worse k d).other=[([],[120],[],[])]:=by
    unfold worse
    split<;>first | exact .inl h | exact .inr rfl
  rcases e with e | e<;>rw[e]<;>decide
theorem Ct.Low.more {N M:Nat} {c:Con} (h:Low N c) (hM:N≤M):Low M c:=⟨fun x hx=>Nat.le_trans (h.1 x hx) hM,Nat.le_trans h.2.1 hM,fun g hg=>Nat.le_trans (h.2.2 g hg) hM⟩
theorem Ct.Low.tame {c:Con} (h:Low 1000 c) (hc:costC c.other≤1000):Tame c:=⟨fun x hx=>Nat.le_trans (h.1 x hx) (by decide),⟨Nat.le_trans h.2.1 (by decide),fun g hg=>Nat.le_trans (h.2.2 g hg) (by decide)⟩,Nat.le_trans hc (by decide)⟩
theorem noProps_any (c:Con) (gv o:Value) (w:World) (hO:OkwV w) (hg:ReadT w.heap.size w gv (sts c.groups)) (ho:ReadP w o c.other) (ht:Tame c) (hr:rightC c=false) :
    Calls Tryz.prog 13 #[agC c gv o] w fun e w'=>e=.returned (.tuple #[.slice none 0 0,.int .i64 12])∧Below w.heap.size w w':=by
  obtain⟨GA,gn,gcap,hgv⟩:∃ A n cap,gv=.slice A n cap:=by obtain⟨A,cap,e,_⟩:=hg;exact⟨A,_,cap,e⟩
  obtain⟨OA,on,ocap,hov⟩:∃ A n cap,o=.slice A n cap:=by obtain⟨A,cap,e,_⟩:=ho;exact⟨A,_,cap,e⟩
  have HR:=Lib.hid (fun W (h:Below w.heap.size w W)=>right_cany c gv o W (hO.below h) (hg.upon h) (ho.below h) ht)
  rw[hr] at HR
  have hag:agC c gv o=.agg #[.string (bts c.name),.string (bts c.family),.string (bts c.given),.string (bts c.nick),.string (bts c.jid),.string (bts c.email),.string (bts c.tel),.string (bts c.note),.string (bts c.uid),gv,o]:=rfl
  rw[hag] at HR ⊢
  rw[hgv,hov] at HR ⊢
  obtain⟨X0,hX0⟩:∃ X,bts c.name=X:=⟨_,rfl⟩
  obtain⟨X1,hX1⟩:∃ X,bts c.family=X:=⟨_,rfl⟩
  obtain⟨X2,hX2⟩:∃ X,bts c.given=X:=⟨_,rfl⟩
  obtain⟨X3,hX3⟩:∃ X,bts c.nick=X:=⟨_,rfl⟩
  obtain⟨X4,hX4⟩:∃ X,bts c.jid=X:=⟨_,rfl⟩
  obtain⟨X5,hX5⟩:∃ X,bts c.email=X:=⟨_,rfl⟩
  obtain⟨X6,hX6⟩:∃ X,bts c.tel=X:=⟨_,rfl⟩
  obtain⟨X7,hX7⟩:∃ X,bts c.note=X:=⟨_,rfl⟩
  obtain⟨X8,hX8⟩:∃ X,bts c.uid=X:=⟨_,rfl⟩
  rw[hX0,hX1,hX2,hX3,hX4,hX5,hX6,hX7,hX8] at HR ⊢
  clear hX0 hX1 hX2 hX3 hX4 hX5 hX6 hX7 hX8 hO hg ho ht hr hag hgv hov
  obtain⟨W1,hW1⟩:∃ W1,w.alloc (.cells #[.string X0,.string X1,.string X2,.string X3,.string X4,.string X5,.string X6,.string X7,.string X8,.slice GA gn gcap,.slice OA on ocap] 25)=W1:=⟨_,rfl⟩
  obtain⟨G,hG⟩:∃ g,w.heap.size=g:=⟨_,rfl⟩
  have K1:Bk W1 G 25 #[.string X0,.string X1,.string X2,.string X3,.string X4,.string X5,.string X6,.string X7,.string X8,.slice GA gn gcap,.slice OA on ocap]:=by rw[← hW1,← hG];exact Bk.new _ _ _
  have B1:Hid (Below w.heap.size w W1):=by rw[← hW1];exact(Below.refl _ _).alloc (Nat.le_refl _) _
  have c0:W1.cell? ⟨G,0,none⟩=some (.string X0):=K1.cell 0
  have c1:W1.cell? ⟨G,1,none⟩=some (.string X1):=K1.cell 1
  have c2:W1.cell? ⟨G,2,none⟩=some (.string X2):=K1.cell 2
  have c3:W1.cell? ⟨G,3,none⟩=some (.string X3):=K1.cell 3
  have c4:W1.cell? ⟨G,4,none⟩=some (.string X4):=K1.cell 4
  have c5:W1.cell? ⟨G,5,none⟩=some (.string X5):=K1.cell 5
  have c6:W1.cell? ⟨G,6,none⟩=some (.string X6):=K1.cell 6
  have c7:W1.cell? ⟨G,7,none⟩=some (.string X7):=K1.cell 7
  have c8:W1.cell? ⟨G,8,none⟩=some (.string X8):=K1.cell 8
  have c9:W1.cell? ⟨G,9,none⟩=some (.slice GA gn gcap):=K1.cell 9
  have c10:W1.cell? ⟨G,10,none⟩=some (.slice OA on ocap):=K1.cell 10
  have HW1:=Lib.hid hW1
  have HG:=Lib.hid hG
  clear hW1 hG K1
  go_enter Tryz.func13,Tryz.ntmps13
  go_upto_region 1 with fail
  (try rw[HW1.out])
  (try rw[HG.out])
  go_wp2_with fail
  refine(HR.out W1 B1.out).mono ?_
  rintro e w2 ⟨rfl,b2⟩
  have B2:Hid (Below w.heap.size w w2):=B1.out.trans (b2.mono B1.out.size)
  clear b2
  go_wp2_with fail
  refine bodyPost_ret (v:=.tuple #[.slice none 0 0,.int .i64 12]) (by simp[results,Tryz.results13,go_sem]) rfl ?_
  exact⟨rfl,by first | exact B2.out | (rw[← HG.out];exact B2.out)⟩
theorem worseP_any (k:Nat) (d:Con) (hd:Near d) (gv o:Value) (w:World) (hO:OkwV w) (hg:ReadT w.heap.size w gv (sts (worse k d).groups)) (ho:SeenP w o (worse k d).other) :
    Calls Tryz.prog 13 #[agC (worse k d) gv o] w fun e w'=>(∃ A cap,e=.returned (.tuple #[.slice A 0 cap,.int .i64 12]))∧Below w.heap.size w w' :=
  (noProps_any (worse k d) gv o w hO hg ho.reads ((worse_low k d hd.low).tame (worse_cost k d hd.other)) (worse_no k d)).mono fun _ _ ⟨he,hb⟩=>⟨⟨none,0,he⟩,hb⟩
theorem worseR_any (k:Nat) (d:Con) (hd:Near d) (gv o:Value) (w:World) (hO:OkwV w) (hg:ReadT w.heap.size w gv (sts (worse k d).groups)) (ho:SeenP w o (worse k d).other) :
    Calls Tryz.prog 16 #[agC (worse k d) gv o] w fun e w'=>e=.returned (.bool false)∧Below w.heap.size w w':=by
  have h:=right_cany (worse k d) gv o w hO hg ho.reads ((worse_low k d hd.low).tame (worse_cost k d hd.other))
  rw[worse_no k d] at h
  exact h
theorem nearR_any (d:Con) (hd:Near d) (gv:Value) (w:World) (hO:OkwV w) (hg:ReadT w.heap.size w gv (sts d.groups)) :
    Calls Tryz.prog 16 #[agC d gv (.slice none 0 0)] w fun e w'=>e=.returned (.bool true)∧Below w.heap.size w w':=by
  have h:=right_cany d gv (.slice none 0 0) w hO hg (by rw[hd.other];exact⟨none,0,rfl,fun h0=>absurd h0 (Nat.not_lt_zero _)⟩) (hd.low.tame (by rw[hd.other];decide))
  rw[hd.right] at h
  exact h
theorem uintRem10 (c:Int):∃ n:Nat,(IntKind.u64.wrap c).tmod 10=(n:Int)∧n < 10:=by
  have e:IntKind.u64.wrap c=c % 18446744073709551616:=by simp[IntKind.wrap,IntKind.bits,IntKind.signed]
  have h0:0≤IntKind.u64.wrap c:=by rw[e];exact Int.emod_nonneg _ (by decide)
  rw[Int.tmod_eq_emod_of_nonneg h0]
  exact⟨(IntKind.u64.wrap c % 10).toNat,by omega,by omega⟩
theorem oneByteN {P:Program} {tb ts te:TypeId} (hb:P.underlying tb=some (.slice te)) (he:P.underlying te=some (.int .u8)) (hs:P.underlying ts=some .string) (x:Int) (w:World) :
    (convert tb ts (.slice (some ⟨w.heap.size,0,none⟩) 1 1)).run P (w.alloc (.cells #[.int .u8 x] te))=.ok (.string ⟨#[UInt8.ofNat x.toNat]⟩) (w.alloc (.cells #[.int .u8 x] te)):=by
  rw[run_convert_bytes_string _ tb ts te _ _ _ hb he hs]
  have:=run_bytesToString (P:=P) (w.alloc (.cells #[.int .u8 x] te)) ⟨w.heap.size,0,none⟩ 1 1 [x] (by
    have h:=run_loadCells_list (P:=P) (w:=w.alloc (.cells #[.int .u8 x] te)) ⟨w.heap.size,0,none⟩ [.int .u8 x] (by
      intro j v hj
      match j,hj with
      | 0,hj=>simp at hj;subst hj;simp[Addr.add])
    exact h)
  rw[this]
  rfl
def longN (k:Nat):ByteArray:=bts (List.replicate k [195,169]).flatten
theorem longN_size (k:Nat):(longN k).size=2*k:=by
  rw[Lib.size_eq]
  show ((List.replicate k [195,169]).flatten:List UInt8).length=_
  induction k with
  | zero=>rfl
  | succ n ih=>rw[List.replicate_succ,List.flatten_cons,List.length_append,ih];simp;omega
theorem longN_succ (k:Nat):longN k++⟨#[195,169]⟩=longN (k+1):=ByteArray.ext (by
  rw[ByteArray.data_append]
  show ((List.replicate k [195,169]).flatten:List UInt8).toArray++[195,169].toArray=((List.replicate (k+1) [195,169]).flatten:List UInt8).toArray
  rw[List.append_toArray,List.replicate_succ',List.flatten_append]
  rfl)
end Go.Proofs.YtfbdnaclkfmiaaaGreatDoor
end
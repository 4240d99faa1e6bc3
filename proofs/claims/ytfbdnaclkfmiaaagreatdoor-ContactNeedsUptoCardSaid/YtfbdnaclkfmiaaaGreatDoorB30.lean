import Derived.Test.YtfbdnaclkfmiaaaGreatDoorB29
import Derived.Deep.Cut
import Derived.Deep.DeepCutAuto
import Derived.Lib.ConvBytes
import Derived.Lib.AtoiErrMem
section
namespace Go.Proofs.YtfbdnaclkfmiaaaGreatDoor
open Go.RowKit Vc
theorem quote_set (l:List UInt8):l.any (([59,58,44]:List UInt8).contains ·)=l.any (fun c=>c==59||c==58||c==44):=by
  congr 1
  funext c
  simp only[List.contains_cons,List.contains_nil,Bool.or_false,Bool.or_assoc]
theorem cat_b (a b:ByteArray):(a++b).data.toList=a.data.toList++b.data.toList:=cat_list a b
theorem cat_size (a b:ByteArray):(a++b).size=a.size+b.size:=by rw[Lib.size_eq,cat_b,List.length_append,← Lib.size_eq,← Lib.size_eq]
theorem par_bytes (nb:ByteArray) (a:Par) (v:ByteArray) (hn:nb.data.toList=a.1) (hv:v.data.toList=pvalT a.2):((((⟨#[59]⟩:ByteArray)++nb)++(⟨#[61]⟩:ByteArray))++v).data.toList=parT a:=by
  rw[cat_b,cat_b,cat_b,hn,hv]
  unfold parT
  simp
theorem flat_takeV {ps:List Par} {k:Nat} {a:Par} (h:ps[k]?=some a):(ps.take (k+1)).flatMap parT=(ps.take k).flatMap parT++parT a:=by
  rw[List.take_add_one,h]
  simp
theorem flat_take_le (ps:List Par) (k:Nat):((ps.take k).flatMap parT).length≤(ps.flatMap parT).length:=by
  conv=>rhs;rw[← List.take_append_drop k ps]
  rw[List.flatMap_append,List.length_append]
  omega
theorem flat_mem {ps:List Par} {a:Par} (h:a∈ps):(parT a).length≤(ps.flatMap parT).length:=by
  induction ps with
  | nil=>cases h
  | cons b ps ih =>
    rw[List.flatMap_cons,List.length_append]
    rcases List.mem_cons.1 h with rfl | h
    · omega
    · have:=ih h;omega
theorem line_parts (p:Pr):(groupT p.1).length≤(lineT p).length∧p.2.1.length≤(lineT p).length∧p.2.2.2.length+1≤(lineT p).length∧(p.2.2.1.flatMap parT).length≤(lineT p).length∧p.1.length≤(groupT p.1).length:=by
  unfold lineT
  simp only[List.length_append,List.length_cons]
  refine⟨by omega,by omega,by omega,by omega,?_⟩
  unfold groupT
  split
  · rename_i h;rw[h];simp
  · simp
theorem pval_len (v:List UInt8):v.length≤(pvalT v).length∧(pvalT v).length≤v.length+2:=by
  unfold pvalT
  split
  · simp only[List.length_cons,List.length_append,List.length_nil];omega
  · exact⟨Nat.le_refl _,by omega⟩
set_option maxHeartbeats 4000000 in
set_option maxRecDepth 100000 in
theorem lineOf_any (p:Pr) (u:Value) (w:World) (hu:ReadA w u p.2.2.1) (hL:(lineT p).length≤1000000000) :
    Calls Tryz.prog 152 #[agP p u] w fun e w'=>e=.returned (.string (bts (lineT p)))∧Below w.heap.size w w':=by
  obtain⟨lp1,lp2,lp3,lp4,lp5⟩:=line_parts p
  have HL:Hid (lineT p=groupT p.1++(p.2.1++(p.2.2.1.flatMap parT++58::p.2.2.2))):=rfl
  have HLL:=Lib.hid hL
  obtain⟨A,cap,rfl,hc⟩:=hu
  obtain⟨n,hn⟩:∃ n,p.2.2.1.length=n:=⟨_,rfl⟩
  obtain⟨x0,e0⟩:∃ a,bts p.1=a:=⟨_,rfl⟩
  obtain⟨x1,e1⟩:∃ a,bts p.2.1=a:=⟨_,rfl⟩
  obtain⟨x3,e3⟩:∃ a,bts p.2.2.2=a:=⟨_,rfl⟩
  have E0:Hid (x0.data.toList=p.1):=by rw[← e0];rfl
  have E1:Hid (x1.data.toList=p.2.1):=by rw[← e1];rfl
  have E3:Hid (x3.data.toList=p.2.2.2):=by rw[← e3];rfl
  have s0:x0.size≤1000000000:=by rw[Lib.size_eq,E0.out];omega
  have s1:x1.size≤1000000000:=by rw[Lib.size_eq,E1.out];omega
  have s3:x3.size≤1000000000:=by rw[Lib.size_eq,E3.out];omega
  have hnl:n≤1000000000:=by have:=Vc.flat_len p.2.2.1;omega
  unfold agP
  rw[e0,e1,e3,hn]
  rw[hn] at hc
  have HC:=Lib.hid hc
  have HN:=Lib.hid hn
  have hge:(x0.toList.isEmpty)=decide (p.1=[]):=by
    rw[← e0,ByteArray.toList_mk]
    cases p.1<;>rfl
  have HGE:=Lib.hid hge
  obtain⟨ge,hgee⟩:∃ ge,x0.toList.isEmpty=ge:=⟨_,rfl⟩
  have HGG:Hid (ge=decide (p.1=[])):=by rw[← hgee];exact hge
  clear hc hn e0 e1 e3 hge
  go_enter Tryz.func152,Tryz.ntmps152
  go_upto_region 2 with fail
  obtain⟨W1,hW1⟩:∃ W1,w.alloc (.cells #[.string x0,.string x1,.slice A n cap,.string x3] 41)=W1:=⟨_,rfl⟩
  obtain⟨P,hP⟩:∃ P,w.heap.size=P:=⟨_,rfl⟩
  have b1:Below P w W1:=by rw[← hW1,← hP];exact(Below.refl _ _).alloc (Nat.le_refl _) _
  have k1:Bk W1 P 41 #[.string x0,.string x1,.slice A n cap,.string x3]:=by rw[← hW1,← hP];exact Bk.new _ _ _
  have z1:W1.heap.size=P+1:=by rw[← hW1,World.size_alloc,hP]
  obtain⟨b,hb⟩:∃ b,P+1=b:=⟨_,rfl⟩
  have bl2:=Bld.start W1
  rw[z1,hb] at bl2
  rw[hW1,hP,hb]
  obtain⟨W2,hW2⟩:∃ W2,W1.alloc (.cells #[.pointer none,.slice none 0 0] 113)=W2:=⟨_,rfl⟩
  rw[hW2] at bl2 ⊢
  have b2:Below b W1 W2:=by rw[← hW2,← hb,← z1];exact(Below.refl _ _).alloc (Nat.le_refl _) _
  have k2:Bk W2 P 41 #[.string x0,.string x1,.slice A n cap,.string x3]:=k1.below b2 (by omega)
  have B2:Hid (Below P w W2):=b1.trans (b2.mono (by omega))
  have BL2:=Lib.hid bl2
  have hPb:P < b:=by omega
  have HKP:Hid (∀ W,Below b W2 W→Bk W P 41 #[.string x0,.string x1,.slice A n cap,.string x3]):=fun W h=>k2.below h hPb
  have HWS:=Lib.hid (fun (out:List UInt8) (S:ByteArray) (W:World) h hl=>bld_string b (b+1) out S W h hl)
  have HPE:=Lib.hid hP
  have y0:W2.cell? ⟨P,0,none⟩=some (.string x0):=k2.cell 0
  have HY:Hid (∀ W,Below b W2 W→W.cell? ⟨P,1,none⟩=some (.string x1)∧W.cell? ⟨P,2,none⟩=some (.slice A n cap)∧W.cell? ⟨P,3,none⟩=some (.string x3)):=fun W h=>⟨(HKP.out W h).cell 1,(HKP.out W h).cell 2,(HKP.out W h).cell 3⟩
  clear hW1 b1 k1 z1 hb bl2 hW2 b2 k2 hP
  go_upto_if 9 with fail
  go_cut [10] from 10 to 13 (fun _ wx=>Hid (Bld b (b+1) (groupT p.1) wx)∧Hid (Below b W2 wx))
  case first =>
    cases ge
    · have hg0:Hid (groupT p.1=x0.data.toList++[46]):=by
        unfold Hid groupT
        rw[if_neg (fun e=>by have:=HGG.out;rw[decide_eq_true e] at this;cases this),E0.out]
      go_wp2_with fail
      refine(HWS.out [] (x0++(⟨#[46]⟩:ByteArray)) _ BL2.out (by rw[cat_size,show (⟨#[46]⟩:ByteArray).size=1 from rfl,List.length_nil];omega)).mono ?_
      rintro e w3 ⟨rfl,bl3,t3⟩
      have BL3:Hid (Bld b (b+1) (groupT p.1) w3):=by
        unfold Hid
        rw[hg0.out]
        rw[cat_b,List.nil_append] at bl3
        exact bl3
      have B3:Hid (Below b W2 w3):=t3.below
      clear bl3 t3
      go_wp2_with fail
      go_meet
      exact⟨BL3,B3⟩
    · have hg0:Hid (groupT p.1=[]):=by
        unfold Hid groupT
        rw[if_pos (by have:=HGG.out;exact of_decide_eq_true this.symm)]
      go_wp2_with fail
      go_meet
      exact⟨by unfold Hid;rw[hg0.out];exact BL2.out,Below.refl _ _⟩
  case rest =>
    obtain⟨BL3,B3⟩:=hcut
    obtain⟨y1,-,-⟩:=HY.out _ B3.out
    go_wp2_with fail
    refine(HWS.out (groupT p.1) x1 _ BL3.out (by omega)).mono ?_
    rintro e w4 ⟨rfl,bl4,t4⟩
    have BL4:Hid (Bld b (b+1) (groupT p.1++p.2.1++(p.2.2.1.take 0).flatMap parT) w4):=by
      unfold Hid
      rw[E1.out] at bl4
      simpa using bl4
    have B4:Hid (Below b W2 w4):=B3.out.trans t4.below
    obtain⟨-,y2,y3⟩:=HY.out _ B4.out
    clear bl4 t4 y1
    go_wp2_with fail
    go_loopw [20] (fun iv wr=>∃ (k:Nat),iv=.int .i64 k∧k≤n∧Hid (Bld b (b+1) (groupT p.1++p.2.1++(p.2.2.1.take k).flatMap parT) wr)∧Hid (Below b W2 wr)) (fun iv _=>n - (intOf iv).toNat)
    case atStart=>exact⟨0,rfl,Nat.zero_le _,BL4,B4⟩
    case round =>
      obtain⟨k,rfl,hk,HBL,HBW⟩:=hrel
      by_cases hlt:k < n
      · obtain⟨ad,rfl,hlb,hcell⟩:=HC.out (by omega)
        obtain⟨q,hq⟩:∃ q,p.2.2.1[k]?=some q:=⟨_,List.getElem?_eq_getElem (by rw[HN.out];exact hlt)⟩
        obtain⟨c0,c1⟩:=hcell k q hq
        have hbW:Below P w wr:=B2.out.trans (HBW.out.mono (by omega))
        rw[HPE.out] at hlb
        rw[← hbW.cell (p:=ad.add (k*2)) (by rw[addBlock];exact hlb)] at c0
        rw[← hbW.cell (p:=⟨(ad.add (k*2)).block,(ad.add (k*2)).off+1,none⟩) (by show (ad.add (k*2)).block < _;rw[addBlock];exact hlb)] at c1
        have HQK:=Lib.hid (flat_takeV hq)
        have hql:=flat_mem (List.mem_of_getElem? hq)
        have hpt:(parT q).length=2+q.1.length+(pvalT q.2).length:=by unfold parT;simp only[List.length_cons,List.length_append];omega
        have hpv:=pval_len q.2
        have HQL:Hid ((parT q).length≤1000000000):=by unfold Hid;omega
        have hout:=flat_take_le p.2.2.1 k
        obtain⟨out,ho⟩:∃ out,groupT p.1++p.2.1++(p.2.2.1.take k).flatMap parT=out:=⟨_,rfl⟩
        have HOUT:=Lib.hid ho
        have hol:out.length≤3000000000:=by rw[← ho];simp only[List.length_append];omega
        rw[ho] at HBL
        obtain⟨nb,hnb⟩:∃ nb,bts q.1=nb:=⟨_,rfl⟩
        obtain⟨vb,hvb⟩:∃ vb,bts q.2=vb:=⟨_,rfl⟩
        have HNB:Hid (nb.data.toList=q.1):=by rw[← hnb];rfl
        have HVB:Hid (vb.data.toList=q.2):=by rw[← hvb];rfl
        have sn:nb.size≤1000000000:=by rw[Lib.size_eq,HNB.out];omega
        have sv:vb.size≤1000000000:=by rw[Lib.size_eq,HVB.out];omega
        have hve:vb.toList.isEmpty=decide (q.2=[]):=by
          rw[← hvb,ByteArray.toList_mk]
          cases q.2<;>rfl
        have HBC:Hid (b≤wr.heap.size):=by have:=HBL.out.lt;unfold Hid;omega
        rw[hnb] at c0
        rw[hvb] at c1
        clear hq hql hpt hpv hout ho hnb hvb hbW hcell
        go_upto_region 8 with fail
        obtain⟨W5,hW5⟩:∃ W5,wr.alloc (.cells #[.string nb,.string vb] 48)=W5:=⟨_,rfl⟩
        obtain⟨Y,hY⟩:∃ Y,wr.heap.size=Y:=⟨_,rfl⟩
        have b5:Below wr.heap.size wr W5:=by rw[← hW5];exact(Below.refl _ _).alloc (Nat.le_refl _) _
        have k5:Bk W5 Y 48 #[.string nb,.string vb]:=by rw[← hW5,← hY];exact Bk.new _ _ _
        have z0:W5.cell? ⟨Y,0,none⟩=some (.string nb):=k5.cell 0
        have z1:W5.cell? ⟨Y,1,none⟩=some (.string vb):=k5.cell 1
        have BL5:=Lib.hid (HBL.out.below b5)
        have B5:Hid (Below b W2 W5):=HBW.out.trans (b5.mono HBC.out)
        have Z5:Hid (b≤W5.heap.size):=Nat.le_trans HBC.out b5.size
        have K5:=Lib.hid k5
        have HA:=Lib.hid (hasAny_any ⟨#[59,58,44]⟩ vb W5 (Asc.of (by decide)) (by decide) (by decide) (by omega))
        rw[hW5,hY]
        clear b5 k5 hW5 hY c0 c1
        by_cases hv0:q.2=[]
        · rw[decide_eq_true hv0] at hve
          have HQV:Hid ((((⟨#[34]⟩:ByteArray)++vb++(⟨#[34]⟩:ByteArray))).data.toList=pvalT q.2):=by
            unfold Hid pvalT
            rw[if_pos (by unfold quoteB;rw[decide_eq_true hv0];rfl),cat_b,cat_b,HVB.out]
            rfl
          clear hv0
          go_wp2_with fail
          have HS:Hid ((((((⟨#[59]⟩:ByteArray)++nb)++(⟨#[61]⟩:ByteArray))++((⟨#[34]⟩:ByteArray)++vb++(⟨#[34]⟩:ByteArray))).data.toList)=parT q):=par_bytes nb q ((⟨#[34]⟩:ByteArray)++vb++(⟨#[34]⟩:ByteArray)) HNB.out HQV.out
          have hsz:(((((⟨#[59]⟩:ByteArray)++nb)++(⟨#[61]⟩:ByteArray))++((⟨#[34]⟩:ByteArray)++vb++(⟨#[34]⟩:ByteArray))).size)≤1000000000:=by rw[Lib.size_eq,HS.out];exact HQL.out
          refine(HWS.out out ((((⟨#[59]⟩:ByteArray)++nb)++(⟨#[61]⟩:ByteArray))++((⟨#[34]⟩:ByteArray)++vb++(⟨#[34]⟩:ByteArray))) _ BL5.out (by omega)).mono ?_
          rintro e w7 ⟨rfl,bl7,t7⟩
          have BL7:Hid (Bld b (b+1) (groupT p.1++p.2.1++(p.2.2.1.take (k+1)).flatMap parT) w7):=by
            unfold Hid
            rw[HQK.out,← List.append_assoc,HOUT.out,← HS.out]
            exact bl7
          have B7:Hid (Below b W2 w7):=B5.out.trans t7.below
          clear bl7 t7 HS hsz
          go_wp2_with fail
          go_roundw
          case rel=>exact⟨k+1,by go_num,by omega,BL7,B7⟩
          case measure=>simp[intOf];omega
        · rw[decide_eq_false hv0] at hve
          obtain⟨qb,hqb⟩:∃ qb,vb.data.toList.any ((⟨#[59,58,44]⟩:ByteArray).data.toList.contains ·)=qb:=⟨_,rfl⟩
          have hqq:quoteB q.2=qb:=by
            unfold quoteB
            rw[decide_eq_false hv0,Bool.false_or,← quote_set,← HVB.out]
            exact hqb
          rw[hqb] at HA
          have HQQ:=Lib.hid hqq
          clear hv0 hqb hqq
          go_wp2_with fail
          refine HA.out.mono ?_
          rintro e w6 ⟨rfl,b6⟩
          have BL6:=Lib.hid (BL5.out.below b6)
          have B6:Hid (Below b W2 w6):=B5.out.trans (b6.mono Z5.out)
          have k6:=K5.out.below b6 K5.out.lt
          have z0':w6.cell? ⟨Y,0,none⟩=some (.string nb):=k6.cell 0
          clear b6 k6
          cases qb
          · have HQV:Hid (vb.data.toList=pvalT q.2):=by
              unfold Hid pvalT
              rw[if_neg (by rw[HQQ.out];decide),HVB.out]
            go_wp2_with fail
            have HS:Hid ((((((⟨#[59]⟩:ByteArray)++nb)++(⟨#[61]⟩:ByteArray))++vb).data.toList)=parT q):=par_bytes nb q vb HNB.out HQV.out
            have hsz:(((((⟨#[59]⟩:ByteArray)++nb)++(⟨#[61]⟩:ByteArray))++vb).size)≤1000000000:=by rw[Lib.size_eq,HS.out];exact HQL.out
            refine(HWS.out out ((((⟨#[59]⟩:ByteArray)++nb)++(⟨#[61]⟩:ByteArray))++vb) _ BL6.out (by omega)).mono ?_
            rintro e w7 ⟨rfl,bl7,t7⟩
            have BL7:Hid (Bld b (b+1) (groupT p.1++p.2.1++(p.2.2.1.take (k+1)).flatMap parT) w7):=by
              unfold Hid
              rw[HQK.out,← List.append_assoc,HOUT.out,← HS.out]
              exact bl7
            have B7:Hid (Below b W2 w7):=B6.out.trans t7.below
            clear bl7 t7 HS hsz
            go_wp2_with fail
            go_roundw
            case rel=>exact⟨k+1,by go_num,by omega,BL7,B7⟩
            case measure=>simp[intOf];omega
          · have HQV:Hid ((((⟨#[34]⟩:ByteArray)++vb++(⟨#[34]⟩:ByteArray))).data.toList=pvalT q.2):=by
              unfold Hid pvalT
              rw[if_pos HQQ.out,cat_b,cat_b,HVB.out]
              rfl
            go_wp2_with fail
            have HS:Hid ((((((⟨#[59]⟩:ByteArray)++nb)++(⟨#[61]⟩:ByteArray))++((⟨#[34]⟩:ByteArray)++vb++(⟨#[34]⟩:ByteArray))).data.toList)=parT q):=par_bytes nb q ((⟨#[34]⟩:ByteArray)++vb++(⟨#[34]⟩:ByteArray)) HNB.out HQV.out
            have hsz:(((((⟨#[59]⟩:ByteArray)++nb)++(⟨#[61]⟩:ByteArray))++((⟨#[34]⟩:ByteArray)++vb++(⟨#[34]⟩:ByteArray))).size)≤1000000000:=by rw[Lib.size_eq,HS.out];exact HQL.out
            refine(HWS.out out ((((⟨#[59]⟩:ByteArray)++nb)++(⟨#[61]⟩:ByteArray))++((⟨#[34]⟩:ByteArray)++vb++(⟨#[34]⟩:ByteArray))) _ BL6.out (by omega)).mono ?_
            rintro e w7 ⟨rfl,bl7,t7⟩
            have BL7:Hid (Bld b (b+1) (groupT p.1++p.2.1++(p.2.2.1.take (k+1)).flatMap parT) w7):=by
              unfold Hid
              rw[HQK.out,← List.append_assoc,HOUT.out,← HS.out]
              exact bl7
            have B7:Hid (Below b W2 w7):=B6.out.trans t7.below
            clear bl7 t7 HS hsz
            go_wp2_with fail
            go_roundw
            case rel=>exact⟨k+1,by go_num,by omega,BL7,B7⟩
            case measure=>simp[intOf];omega
      · have hke:k=n:=by omega
        have BLE:Hid (Bld b (b+1) (groupT p.1++p.2.1++p.2.2.1.flatMap parT) wr):=by
          have:=HBL.out
          rw[hke,List.take_of_length_le (by rw[HN.out];exact Nat.le_refl _)] at this
          exact this
        obtain⟨-,-,y3'⟩:=HY.out _ HBW.out
        clear hke
        go_wp2_with fail
        refine(HWS.out (groupT p.1++p.2.1++p.2.2.1.flatMap parT) ((⟨#[58]⟩:ByteArray)++x3) _ BLE.out (by rw[cat_size,show (⟨#[58]⟩:ByteArray).size=1 from rfl];simp only[List.length_append];have:=HLL.out;omega)).mono ?_
        rintro e w8 ⟨rfl,bl8,t8⟩
        have BL8:Hid (Bld b (b+1) (lineT p) w8):=by
          unfold Hid
          rw[HL.out]
          rw[cat_b,E3.out] at bl8
          simpa using bl8
        have B8:Hid (Below b W2 w8):=HBW.out.trans t8.below
        have HSR:=Lib.hid (bld_String b (b+1) (lineT p) w8 BL8.out)
        clear bl8 t8
        go_wp2_with fail
        refine HSR.out.mono ?_
        rintro e w9 ⟨rfl,b9⟩
        go_wp2_with fail
        go_ret
        exact⟨rfl,by rw[HPE.out];exact B2.out.trans ((B8.out.trans b9).mono (by omega))⟩
end Go.Proofs.YtfbdnaclkfmiaaaGreatDoor
end
section
namespace Go.Proofs.YtfbdnaclkfmiaaaGreatDoor
open Go.RowKit Tx
theorem fpush_bytes:∀ (p:List UInt8) (r:ByteArray),((p.map fun c:UInt8=>(c.toNat:Int)).foldl (fun r n=>r.push (UInt8.ofNat n.toNat)) r)=⟨(r.data.toList++p).toArray⟩
  | [],r=>by simp
  | c :: t,r=>by
    rw[List.map_cons,List.foldl_cons,fpush_bytes t]
    have:(r.push (UInt8.ofNat ((c.toNat:Int)).toNat)).data.toList=r.data.toList++[c]:=by
      show (r.data.push _).toList=_
      rw[Array.toList_push]
      simp
    rw[this]
    simp
theorem bytesStr {P:Program} {tb ts te:TypeId} (hb:P.underlying tb=some (.slice te)) (he:P.underlying te=some (.int .u8)) (hs:P.underlying ts=some .string) (W:World) (g o cap n:Nat) (p:List UInt8) (hn:p.length=n)
    (hc:∀ j c,p[j]?=some c→W.cell? ⟨g,o+j,none⟩=some (.int .u8 (c.toNat:Nat))):(convert tb ts (.slice (some ⟨g,o,none⟩) n cap)).run P W=.ok (.string ⟨p.toArray⟩) W:=by
  subst hn
  rw[run_convert_bytes_string _ tb ts te _ _ _ hb he hs]
  have h:=run_loadCells_list (P:=P) (w:=W) ⟨g,o,none⟩ (p.map fun c=>Value.int .u8 (c.toNat:Int)) (by
    intro j v hj
    rw[List.getElem?_map] at hj
    obtain⟨c,hc2,rfl⟩:=Option.map_eq_some_iff.1 hj
    rw[add_at]
    exact hc j c hc2)
  rw[List.length_map] at h
  have:=run_bytesToString (P:=P) W ⟨g,o,none⟩ p.length cap (p.map fun c:UInt8=>(c.toNat:Int)) (by
    rw[h,List.map_map]
    rfl)
  rw[this,fpush_bytes]
  congr 3
def escd:Bool→List UInt8→Nat→Bool
  | e,_,0=>e
  | e,[],_+1=>e
  | e,c::t,k+1=>escd (c==92&&!e) t k
theorem escd_next (sep:UInt8):∀ (l:List UInt8) (e:Bool) (k:Nat) (c:UInt8),l[k]?=some c→escd e l (k+1)=(c==92&&!escd e l k)∧(cutsAt sep e l)[k]?=some (c==sep&&!escd e l k)
  | [],_,k,c,h=>by simp at h
  | d::t,e,0,c,h=>by
    obtain rfl:d=c:=by simpa using h
    have h0:∀ (e:Bool) (t:List UInt8),escd e t 0=e:=fun e t=>by cases t<;>rfl
    refine⟨by show escd _ t 0=_;rw[h0,h0],?_⟩
    unfold cutsAt
    rw[h0]
    rfl
  | d::t,e,k+1,c,h=>by
    have ih:=escd_next sep t (d==92&&!e) k c (by simpa using h)
    refine⟨ih.1,?_⟩
    unfold cutsAt
    rw[List.getElem?_cons_succ]
    exact ih.2
set_option maxHeartbeats 1000000 in
set_option maxRecDepth 100000 in
theorem splitFn_any (a b:Nat) (c sep:UInt8) (e:Bool) (W:World) (hS:W.cell? ⟨a,0,none⟩=some (.int .u8 (sep.toNat:Nat))) (hB:Bk W b 4 #[.bool e]) :
    Calls Tryz.prog 112 #[.int .u8 c.toNat,.pointer (some ⟨a,0,none⟩),.pointer (some ⟨b,0,none⟩)] W fun E W'=>E=.returned (.bool (c==sep&&!e))∧Bk W' b 4 #[.bool (c==92&&!e)]∧W.grownBy W' (some b):=by
  have c0:=hB.cell 0
  have f0:=hB.free 0
  simp only[Nat.reduceLT,List.size_toArray,List.length_cons,List.length_nil,getElem?_pos,Nat.reduceAdd,List.getElem_toArray,List.getElem_cons_zero] at c0
  have HB:=Lib.hid hB
  obtain⟨z,hz⟩:∃ z:Int,(c.toNat:Int)=z:=⟨_,rfl⟩
  obtain⟨y,hy⟩:∃ y:Int,(sep.toNat:Int)=y:=⟨_,rfl⟩
  have h1:(c==sep)=(z==y):=by
    rw[Bool.eq_iff_iff]
    simp only[beq_iff_eq]
    exact⟨fun h=>by rw[← hz,← hy,h],fun h=>UInt8.toNat_inj.1 (by omega)⟩
  have h2:(c==92)=(z==92):=by
    rw[Bool.eq_iff_iff]
    simp only[beq_iff_eq]
    exact⟨fun h=>by rw[← hz,h];rfl,fun h=>UInt8.toNat_inj.1 (by have:((92:UInt8).toNat:Int)=92:=rfl;omega)⟩
  rw[h1,h2,hz]
  rw[hy] at hS
  clear h1 h2 hz hy hB
  cases h3:z==y<;>cases h4:z==92<;>cases e
  all_goals
    go_enter Tryz.func112,Tryz.ntmps112
    go_wp2_with fail
    go_ret
    refine⟨ret_bool (by simp),?_,?_⟩
    · first
      | exact HB.out
      | (have:=HB.out.put 0 (.bool true);simpa using this)
      | (have:=HB.out.put 0 (.bool false);simpa using this)
    · first
      | exact grown_self _ _
      | exact grown_set _
theorem split_ivs (sep:UInt8) (l:List UInt8):split1 sep l=tails ((ivs 0 0 (cutsAt sep false l)).map (piece2 l)):=by
  unfold split1
  rw[← spl_gat sep l false [],gat_all l _ (cutsAt_len sep l false).symm]
theorem tails_get:∀ (R:List (List UInt8)) (k:Nat) (p:List UInt8),R[k]?=some p→(tails R)[k]?=some (if k=0 then p else p.tail)
  | [],k,p,h=>by simp at h
  | a::t,0,p,h=>by
    obtain rfl:a=p:=by simpa using h
    rfl
  | a::t,k+1,p,h=>by
    have h2:t[k]?=some p:=by simpa using h
    show (t.map List.tail)[k]?=_
    rw[List.getElem?_map,h2]
    rfl
theorem tails_len (R:List (List UInt8)):(tails R).length=R.length:=by cases R<;>simp[tails]
set_option maxHeartbeats 4000000 in
set_option maxRecDepth 100000 in
theorem fsplit_any (s:ByteArray) (sep:UInt8) (w:World) (hs:s.size < 1000000000) :
    Calls Tryz.prog 79 #[.string s,.int .u8 sep.toNat] w fun e w'=>∃ v,e=.returned v∧OwnT w.heap.size w' v (sts (split1 sep s.data.toList))∧Below w.heap.size w w':=by
  have hsz:=Lib.size_eq s
  have hsl:=split_ivs sep s.data.toList
  obtain⟨a,ha⟩:∃ a,w.heap.size=a:=⟨_,rfl⟩
  obtain⟨y,hy⟩:∃ y:Int,(sep.toNat:Int)=y:=⟨_,rfl⟩
  obtain⟨W1,hW1⟩:∃ W1,W1=w.alloc (.cells #[.int .u8 y] 5):=⟨_,rfl⟩
  obtain⟨W2,hW2⟩:∃ W2,W2=W1.alloc (.cells #[.bool false] 4):=⟨_,rfl⟩
  have hz1:W1.heap.size=a+1:=by rw[hW1,← ha];simp
  have hz2:W2.heap.size=a+2:=by rw[hW2,World.size_alloc,hz1]
  have hcv:=Lib.run_convert_string_bytes (P:=Tryz.prog) W2 9 50 5 s Tryz.underlying9 Tryz.underlying50 Tryz.underlying5
  obtain⟨cap,hcap⟩:∃ cap,grownCap W2 s.size 0 5=cap:=⟨_,rfl⟩
  have hcg:s.size≤cap:=by rw[← hcap];exact grownCap_ge _ _ _ _
  have hcm:cap≤maxLen:=by rw[← hcap];exact grownCap_le_maxLen _ _ _ _ (by unfold maxLen;omega)
  rw[hcap] at hcv
  obtain⟨W3,hW3⟩:∃ W3,W3=Lib.bytesWorld W2 5 s:=⟨_,rfl⟩
  have hz3:W3.heap.size=a+3:=by rw[hW3,Lib.bytesWorld_size,hz2]
  have b3:Below a w W3:=by
    have h1:Below a w W1:=by rw[hW1,← ha];exact(Below.refl _ _).alloc (Nat.le_refl _) _
    have h2:Below a w W2:=by rw[hW2];exact h1.alloc (by omega) _
    rw[hW3]
    exact h2.trans ((Lib.bytesWorld_below _ _ _).mono (by omega))
  have hA:W3.cell? ⟨a,0,none⟩=some (.int .u8 (sep.toNat:Nat)):=by
    rw[World.cell?_of_block (w:=W2) (w':=W3) (a:=⟨a,0,none⟩) (by rw[hW3];exact Lib.bytesWorld_at_old _ _ _ _ (by show a < _;omega)),hW2,World.cell?_alloc_old _ _ _ (by show a≠_;omega),hW1,← ha,hy]
    exact cell_of_row _ _ 0 _ 5 (0,0) (heap_alloc_new w _)
  have hB:Bk W3 (a+1) 4 #[.bool false]:=by
    unfold Bk
    rw[hW3,Lib.bytesWorld_at_old _ _ _ _ (by omega),hW2,← hz1]
    exact heap_alloc_new W1 _
  have HBy:∀ j x,s.data.toList[j]?=some x→W3.cell? ⟨a+2,j,none⟩=some (.int .u8 (x.toNat:Nat)):=fun j x hx=>by
    have hj:j < s.size:=by rw[hsz];exact(List.getElem?_eq_some_iff.1 hx).1
    rw[hW3,← hz2,Lib.bytesWorld_cell _ _ _ j hj,List.getD_eq_getElem?_getD,hx]
    rfl
  rw[← hW3] at hcv
  have e1:W1.cell? ⟨a,0,none⟩=some (.int .u8 y):=by
    rw[hW1,← ha]
    exact cell_of_row _ _ 0 _ 5 (0,0) (heap_alloc_new w _)
  have hbl:=cutsAt_len sep s.data.toList false
  obtain⟨bs,hbs⟩:∃ bs,cutsAt sep false s.data.toList=bs:=⟨_,rfl⟩
  have HGx:=gatherB_any (a+2) cap s.size a (a+1) (a+3) s.data.toList (cutsAt sep false s.data.toList) (fun k W=>Bk W (a+1) 4 #[.bool (escd false s.data.toList k)]) W3 (by omega) (by omega) (by omega) (by omega) HBy hsz.symm (by rw[hbl,hsz]) hcg hcm (by omega) (by have h0:∀ (e:Bool) (t:List UInt8),escd e t 0=e:=(fun e t=>by cases t<;>rfl);rw[h0];exact hB)
    (fun k W W' h1 h2=>(show W'.heap[a+1]?=_ from h1.trans h2))
    (fun k x B W hx hB' hI hCW ht=>by
      obtain⟨n1,n2⟩:=escd_next sep s.data.toList false k x hx
      rw[hB'] at n2
      have hBe:B=(x==sep&&!escd false s.data.toList k):=Option.some.inj n2
      rw[hBe,n1]
      refine splitFn_any a (a+1) x sep _ W ?_ hI
      rw[World.cell?_of_block (w:=W3) (w':=W) (a:=⟨a,0,none⟩) (ht.keeps (g:=a) (by omega) (by omega))]
      exact hA)
  rw[hbs] at HGx hsl hbl
  have HG:=Lib.hid HGx
  have HBY:=Lib.hid HBy
  have HSL:=Lib.hid hsl
  have hok:Hid (∀ x∈ivs 0 0 bs,x.1≤x.2∧x.2≤s.size):=fun x hx=>by
    have:=ivs_ok bs 0 0 (Nat.le_refl _) x hx
    rw[hbl,Nat.zero_add,← hsz] at this
    exact this
  have hpos:Hid (∀ k x,1≤k→(ivs 0 0 bs)[k]?=some x→x.1 < x.2):=fun k x hk hx=>by
    obtain⟨e,t,h1,_,h3⟩:=ivs_first bs 0 0
    rw[h1] at hx
    cases k with
    | zero=>omega
    | succ k =>
      rw[List.getElem?_cons_succ] at hx
      exact h3 x (List.mem_of_getElem? hx)
  have hil:=(ivs_len bs 0 0).2
  rw[hbl,← hsz] at hil
  rw[hz2,hW2,hW1] at hcv
  have HB3:=Lib.hid b3
  rw[hy]
  have HSZ:=Lib.hid hsz
  have hcg2:=hcg
  clear HGx HBy hsl hW3 hW2 hW1 hz2 hcap hB hA b3 hbs hbl hcg hcm hsz
  go_enter Tryz.func79,Tryz.ntmps79
  go_wp2_with fail
  refine HG.out.mono ?_
  rintro e w3 ⟨v,rfl,⟨g2,cap2,rfl,hr1,hr2,hr3,hr4⟩,-,t3⟩
  have hs3:=t3.below.size
  have bb3:Below a w w3:=HB3.out.trans (t3.below.mono (by omega))
  have hby3:Hid (∀ j x,s.data.toList[j]?=some x→w3.cell? ⟨a+2,j,none⟩=some (.int .u8 (x.toNat:Nat))):=fun j x hx=>by
    rw[World.cell?_of_block (w:=W3) (w':=w3) (a:=⟨a+2,j,none⟩) (t3.keeps (g:=a+2) (by omega) (by omega))]
    exact HBY.out j x hx
  obtain⟨I,hI⟩:∃ I,ivs 0 0 bs=I:=⟨_,rfl⟩
  rw[hI] at HSL hok hpos hil hr1 hr4 ⊢
  have HR4:=Lib.hid hr4
  obtain⟨C4,hC4⟩:∃ C4,w3.heap.size=C4:=⟨_,rfl⟩
  rw[hC4] at hr3
  obtain⟨LL,hLL⟩:∃ LL,sts (split1 sep s.data.toList)=LL:=⟨_,rfl⟩
  have hLLl:LL.length=I.length:=by rw[← hLL,sts_len,HSL.out,tails_len,List.length_map]
  have hLg:Hid (∀ (k:Nat) (x:Nat × Nat),I[k]?=some x→LL[k]?=some ⟨(if k=0 then piece2 s.data.toList x else (piece2 s.data.toList x).tail).toArray⟩):=fun k x hx=>by
    rw[← hLL]
    unfold sts
    rw[List.getElem?_map,HSL.out,tails_get _ k (piece2 s.data.toList x) (by rw[List.getElem?_map,hx];rfl)]
    rfl
  have HLL:=Lib.hid hLL
  have HBs:=fun (W:World) (g o cap n:Nat) (p:List UInt8) h1 h2=>bytesStr (P:=Tryz.prog) Tryz.underlying50 Tryz.underlying5 Tryz.underlying9 W g o cap n p h1 h2
  have HBS:=Lib.hid HBs
  clear hr4 t3 hI hLL HBs HG HBY HSL hcv e1
  go_wp2_with fail
  go_loopw [7,16] (fun lv at_ wr=>∃ (k:Nat) (v:Value),lv=v∧at_=.int .i64 k∧k≤I.length∧Hid (OwnT C4 wr v (LL.take k))∧Below C4 w3 wr) (fun _ at_ _=>I.length - (intOf at_).toNat)
  case atStart=>exact⟨0,_,rfl,rfl,Nat.zero_le _,OwnT.nil _ _,Below.refl _ _⟩
  case round =>
    obtain⟨k,lv,hlv,rfl,hk,hown,hb4⟩:=hrel
    have hlv2:=hlv.symm
    subst hlv2
    have hsw:=hb4.size
    rw[hC4] at hsw
    by_cases hlt:k < I.length
    · obtain⟨x,hx⟩:∃ x,I[k]?=some x:=⟨_,List.getElem?_eq_getElem hlt⟩
      have c1:=HR4.out k x hx
      rw[← hb4.cell (p:=⟨g2,k,none⟩) hr3] at c1
      obtain⟨hx1,hx2⟩:=hok.out x (List.mem_of_getElem? hx)
      have hxp:=hpos.out k x
      have hLk:=hLg.out k x hx
      have hpl:=piece2_len s.data.toList x hx1 (by rw[← HSZ.out];exact hx2)
      have hby4:∀ j c,(piece2 s.data.toList x)[j]?=some c→wr.cell? ⟨a+2,x.1+j,none⟩=some (.int .u8 (c.toNat:Nat)):=fun j c hc=>by
        have hj:j < x.2 - x.1:=by rw[← hpl];exact(List.getElem?_eq_some_iff.1 hc).1
        rw[piece2_get _ _ _ hj] at hc
        rw[hb4.cell (p:=⟨a+2,x.1+j,none⟩) (by show a+2 < C4;omega)]
        exact hby3.out _ _ hc
      have HAL:Hid ((LL.take k).length≤1000000000000):=by unfold Hid;rw[List.length_take];omega
      obtain⟨p,hp⟩:∃ p,piece2 s.data.toList x=p:=⟨_,rfl⟩
      obtain⟨o,ho⟩:∃ o,x.1=o:=⟨_,rfl⟩
      obtain⟨m,hm⟩:∃ m,x.2 - x.1=m:=⟨_,rfl⟩
      obtain⟨c',hc'⟩:∃ c',cap - x.1=c':=⟨_,rfl⟩
      have hmc:m≤c':=by have:=hcg2;omega
      have hm1:1≤k→1≤m:=fun h=>by have:=hxp h hx;omega
      unfold slv at c1
      rw[hm,hc',ho] at c1
      rw[hp,hm] at hpl
      rw[hp,ho] at hby4
      rw[hp] at hLk
      clear hx hxp hp ho hm hc' hx1 hx2
      by_cases hk0:k=0
      · subst hk0
        rw[if_pos rfl] at hLk
        have htk:Hid (LL.take (0+1)=LL.take 0++[⟨p.toArray⟩]):=by
          unfold Hid
          rw[List.take_add_one,hLk]
          rfl
        have hcv2:=HBS.out wr (a+2) o c' m p hpl hby4
        obtain⟨P,hP⟩:∃ P:ByteArray,⟨p.toArray⟩=P:=⟨_,rfl⟩
        rw[hP] at hcv2 htk
        clear hby4 hLk hpl hm1 hP
        go_wp2_with (at_builtin;refine push_str rfl _ _ rfl C4 lv _ P wr rfl hown.out rfl HAL.out hsw ?_)
        intro v' w6 h1 h2
        have R1:Hid (OwnT C4 w6 v' (LL.take (0+1))):=by unfold Hid;rw[htk.out];exact h1
        clear h1
        go_wp2_with fail
        go_roundw
        case rel=>exact⟨0+1,_,rfl,by go_num,by omega,R1,hb4.trans h2⟩
        case measure=>simp[intOf];omega
      · rw[if_neg hk0] at hLk
        have htk:Hid (LL.take (k+1)=LL.take k++[⟨p.tail.toArray⟩]):=by
          unfold Hid
          rw[List.take_add_one,hLk]
          rfl
        have hm1':=hm1 (by omega)
        have hk1:(0:Int) < (k:Int):=by omega
        obtain⟨P,hP⟩:∃ P:ByteArray,⟨p.tail.toArray⟩=P:=⟨_,rfl⟩
        rw[hP] at htk
        have hpt:p.tail.length=m - 1:=by rw[List.length_tail,hpl]
        by_cases hc1:c'=1
        · obtain rfl:m=1:=by omega
          subst hc1
          have hcv2:=HBS.out wr (a+2) o 0 0 p.tail (by rw[hpt]) (fun j c hc=>by
            have:p.tail=[]:=List.eq_nil_of_length_eq_zero (by rw[hpt])
            rw[this] at hc
            simp at hc)
          rw[hP] at hcv2
          clear hby4 hLk hpl hm1 hP hpt
          go_wp2_with (at_builtin;refine push_str rfl _ _ rfl C4 lv _ P wr rfl hown.out rfl HAL.out hsw ?_)
          intro v' w6 h1 h2
          have R1:Hid (OwnT C4 w6 v' (LL.take (k+1))):=by unfold Hid;rw[htk.out];exact h1
          clear h1
          go_wp2_with fail
          go_roundw
          case rel=>exact⟨k+1,_,rfl,by go_num,by omega,R1,hb4.trans h2⟩
          case measure=>simp[intOf];omega
        · have hcv2:=HBS.out wr (a+2) (o+1) (c' - 1) (m - 1) p.tail hpt (fun j c hc=>by
            rw[← List.drop_one,List.getElem?_drop] at hc
            rw[show o+1+j=o+(1+j) by omega]
            exact hby4 _ _ hc)
          rw[hP] at hcv2
          clear hby4 hLk hpl hm1 hP hpt
          go_wp2_with (at_builtin;refine push_str rfl _ _ rfl C4 lv _ P wr rfl hown.out rfl HAL.out hsw ?_)
          intro v' w6 h1 h2
          have R1:Hid (OwnT C4 w6 v' (LL.take (k+1))):=by unfold Hid;rw[htk.out];exact h1
          clear h1
          go_wp2_with fail
          go_roundw
          case rel=>exact⟨k+1,_,rfl,by go_num,by omega,R1,hb4.trans h2⟩
          case measure=>simp[intOf];omega
    · have ho:=hown.out
      rw[List.take_of_length_le (by omega)] at ho
      have HOO:=Lib.hid (ho.weak (B':=a) (by omega))
      clear ho
      go_wp2_with fail
      go_ret
      exact⟨lv,rfl,by rw[HLL.out];exact HOO.out,bb3.trans (hb4.mono (by omega))⟩
end Go.Proofs.YtfbdnaclkfmiaaaGreatDoor
end
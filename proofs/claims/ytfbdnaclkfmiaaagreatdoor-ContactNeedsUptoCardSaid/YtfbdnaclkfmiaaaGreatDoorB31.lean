import Derived.Test.YtfbdnaclkfmiaaaGreatDoorB29
import Derived.Test.YtfbdnaclkfmiaaaGreatDoorB30
import Derived.Test.YtfbdnaclkfmiaaaGreatDoorB16
section
namespace Go.Proofs.YtfbdnaclkfmiaaaGreatDoor
open Go.RowKit Vc
theorem neqAt (p q:Att) (w:World):(binOp .neq 48 (agA p) (agA q)).run Tryz.prog w=.ok (.bool (!decide (p=q))) w:=by
  rw[run_neq_struct,equalAt]
  rfl
theorem pr_split (t u:Pr):decide (t=u)=(((bts t.1).toList==(bts u.1).toList)&&(((bts t.2.1).toList==(bts u.2.1).toList)&&(((bts t.2.2.2).toList==(bts u.2.2.2).toList)&&decide (t.2.2.1=u.2.2.1)))):=by
  obtain⟨a,b,e,f⟩:=t
  obtain⟨a',b',e',f'⟩:=u
  simp only
  rw[bts_eqb,bts_eqb,bts_eqb,Bool.eq_iff_iff]
  simp only[decide_eq_true_eq,Bool.and_eq_true,Prod.mk.injEq]
  constructor
  · rintro ⟨rfl,rfl,rfl,rfl⟩
    exact⟨rfl,rfl,rfl,rfl⟩
  · rintro ⟨rfl,rfl,rfl,rfl⟩
    exact⟨rfl,rfl,rfl,rfl⟩
set_option maxHeartbeats 4000000 in
set_option maxRecDepth 100000 in
theorem sEqual_any (v u:Value) (x y:List Att) (w:World) (hx:ReadA w v x) (hy:ReadA w u y) (hl:x.length≤1000000000) (hm:y.length≤1000000000) :
    Calls Tryz.prog 187 #[v,u] w fun e w'=>e=.returned (.bool (decide (x=y)))∧Below w.heap.size w w':=by
  obtain⟨A,cap,rfl,hx2⟩:=hx
  obtain⟨A',cap',rfl,hy2⟩:=hy
  by_cases hne:x.length=y.length
  · have HNE:=Lib.hid hne
    have HX:=Lib.hid hx2
    have HY:=Lib.hid hy2
    have hbne:(((x.length:Nat):Int) != ((y.length:Nat):Int))=false:=by simp[hne]
    have HE0:Hid (x.take 0=y.take 0):=by unfold Hid;simp
    have HB0:Hid (Below w.heap.size w w):=Below.refl _ _
    clear hne hx2 hy2
    go_enter Tryz.func187,Tryz.ntmps187
    go_wp2_with fail
    go_loopw [13] (fun i wr=>∃ (k:Nat),k≤x.length∧i=.int .i64 k∧Hid (x.take k=y.take k)∧Hid (Below w.heap.size w wr)) (fun i _=>x.length - (intOf i).toNat)
    case atStart=>exact⟨0,Nat.zero_le _,rfl,HE0,HB0⟩
    case round =>
      obtain⟨k,hk,rfl,hte,HBW⟩:=hrel
      by_cases hlt:k < x.length
      · have hlty:k < y.length:=by rw[← HNE.out];exact hlt
        obtain⟨g,rfl,hlb,hc⟩:=HX.out (by omega)
        obtain⟨g',rfl,hlb',hd⟩:=HY.out (by omega)
        obtain⟨p,hp⟩:∃ p,x[k]?=some p:=⟨_,List.getElem?_eq_getElem hlt⟩
        obtain⟨q,hq⟩:∃ q,y[k]?=some q:=⟨_,List.getElem?_eq_getElem hlty⟩
        obtain⟨c0,c1⟩:=hc k p hp
        obtain⟨d0,d1⟩:=hd k q hq
        rw[← HBW.out.cell (p:=g.add (k*2)) (by rw[addBlock];exact hlb)] at c0
        rw[← HBW.out.cell (p:=⟨(g.add (k*2)).block,(g.add (k*2)).off+1,none⟩) (by show (g.add (k*2)).block < _;rw[addBlock];exact hlb)] at c1
        rw[← HBW.out.cell (p:=g'.add (k*2)) (by rw[addBlock];exact hlb')] at d0
        rw[← HBW.out.cell (p:=⟨(g'.add (k*2)).block,(g'.add (k*2)).off+1,none⟩) (by show (g'.add (k*2)).block < _;rw[addBlock];exact hlb')] at d1
        have e1:=fun W=>neqAt p q W
        have e2:=fun op x y W=>eqGuardA op x y p q W
        simp only[agA] at e1 e2
        have HP:=Lib.hid hp
        have HQ:=Lib.hid hq
        obtain⟨pq,hpq⟩:∃ b,decide (p=q)=b:=⟨_,rfl⟩
        have HPQ:=Lib.hid hpq
        rw[hpq] at e1
        clear hp hq hc hd hpq
        go_wp2_with fail
        cases pq
        · go_quiet (fail)
          have hq2:decide (x=y)=false:=by
            refine decide_eq_false (fun e=>?_)
            subst e
            exact of_decide_eq_false HPQ.out (Option.some.inj (HP.out.symm.trans HQ.out))
          clear c0 c1 d0 d1 e1 e2
          go_wp2_with fail
          go_ret
          exact⟨ret_bool hq2.symm,below_drewQ HBW.out _⟩
        · go_quiet (fail)
          have hts:=Lib.hid (take_succ_same HP.out HQ.out hte.out (of_decide_eq_true HPQ.out))
          have B3:Hid (Below w.heap.size w (wr.drewN nq)):=below_drewQ HBW.out _
          clear c0 c1 d0 d1 e1 e2
          go_wp2_with fail
          go_roundw
          case rel=>exact⟨k+1,by omega,by go_num,hts,B3⟩
          case measure=>simp[intOf];omega
      · have hke:k=x.length:=by omega
        have hxy:decide (x=y)=true:=by
          have h1:=hte.out
          rw[hke,List.take_length,HNE.out,List.take_length] at h1
          exact decide_eq_true h1
        clear hke
        go_wp2_with fail
        go_ret
        exact⟨ret_bool hxy.symm,HBW.out⟩
  · have hbne:(((x.length:Nat):Int) != ((y.length:Nat):Int))=true:=by simp;omega
    have hq:decide (x=y)=false:=decide_eq_false (fun e=>hne (congrArg List.length e))
    rw[hq]
    clear hq hne hx2 hy2
    go_enter Tryz.func187,Tryz.ntmps187
    go_wp2_with fail
    go_ret
    exact⟨rfl,Below.refl _ _⟩
end Go.Proofs.YtfbdnaclkfmiaaaGreatDoor
end
section
namespace Go.Proofs.YtfbdnaclkfmiaaaGreatDoor
open Go.RowKit Vc
def comB (l:List UInt8) (p:Pr):Bool:=Tx.valid l&&(decide (Tx.clean l)&&(!decide (up l=endT)&&(decide (ownE l=0)&&decide (propL l=some p))))
set_option maxHeartbeats 4000000 in
set_option maxRecDepth 100000 in
theorem comesBack_any (s:ByteArray) (p:Pr) (u:Value) (w:World) (hT:Tabs w) (hF:Folds w) (hM:MaxL w) (hs:s.size≤1000000000) (hu:ReadA w u p.2.2.1) (hl:p.2.2.1.length≤1000000000) :
    Calls Tryz.prog 153 #[.string s,agP p u] w fun e w'=>e=.returned (.bool (comB s.data.toList p))∧Below w.heap.size w w':=by
  have HU:=Lib.hid hu
  obtain⟨UA,ucap,hua,-⟩:=hu
  obtain⟨un,hun⟩:∃ un,p.2.2.1.length=un:=⟨_,rfl⟩
  rw[hun] at hua
  subst hua
  obtain⟨b0,k0⟩:∃ a,bts p.1=a:=⟨_,rfl⟩
  obtain⟨b1,k1⟩:∃ a,bts p.2.1=a:=⟨_,rfl⟩
  obtain⟨b3,k3⟩:∃ a,bts p.2.2.2=a:=⟨_,rfl⟩
  have K0:=Lib.hid k0
  have K1:=Lib.hid k1
  have K3:=Lib.hid k3
  unfold agP
  rw[k0,k1,k3]
  obtain⟨W1,hW1⟩:∃ W1,w.alloc (.cells #[.string b0,.string b1,.slice UA un ucap,.string b3] 41)=W1:=⟨_,rfl⟩
  obtain⟨P,hP⟩:∃ P,w.heap.size=P:=⟨_,rfl⟩
  have bb1:Below w.heap.size w W1:=by rw[← hW1];exact(Below.refl _ _).alloc (Nat.le_refl _) _
  have kk1:Bk W1 P 41 #[.string b0,.string b1,.slice UA un ucap,.string b3]:=by rw[← hW1,← hP];exact Bk.new _ _ _
  have BB1:=Lib.hid bb1
  have KK1:=Lib.hid kk1
  have HW1:=Lib.hid hW1
  have HPE:=Lib.hid hP
  obtain⟨l,hll⟩:∃ l,s.data.toList=l:=⟨_,rfl⟩
  have HV:=valid_any s W1 (hT.below bb1) (by omega)
  have HE:=fun (W:World)=>hasEnd_any s W (by omega)
  have HI:=fun (W:World) (h:Below W1.heap.size W1 W)=>is_any s ⟨#[69,78,68,58,86,67,65,82,68]⟩ W plain_endV ((hT.below bb1).below h) ((hF.below bb1).below h) (by omega)
  have HO:=fun (W:World) (h:Below W1.heap.size W1 W)=>own_any s W ((hM.below bb1).below h) hs
  rw[hll] at HV HO ⊢
  simp only[hll] at HE HI
  rw[show up (⟨#[69,78,68,58,86,67,65,82,68]⟩:ByteArray).data.toList=endT from up_end] at HI
  obtain⟨bv,hbv⟩:∃ b,Tx.valid l=b:=⟨_,rfl⟩
  obtain⟨bc,hbc⟩:∃ b,decide (Tx.clean l)=b:=⟨_,rfl⟩
  obtain⟨be,hbe⟩:∃ b,decide (up l=endT)=b:=⟨_,rfl⟩
  rw[hbv] at HV
  rw[hbc] at HE
  rw[hbe] at HI
  have HVH:=Lib.hid HV
  have HEH:=Lib.hid HE
  have HIH:=Lib.hid HI
  have HOH:=Lib.hid HO
  have hC:comB l p=(bv&&(bc&&(!be&&(decide (ownE l=0)&&decide (propL l=some p))))):=by unfold comB;rw[hbv,hbc,hbe]
  rw[hC]
  obtain⟨d0,hd0⟩:∃ b,(decide (ownE l=0)&&decide (propL l=some p))=b:=⟨_,rfl⟩
  have HD:=Lib.hid hd0
  rw[hd0]
  have HLL:Hid (l.length≤1000000000):=by unfold Hid;rw[← hll,← Lib.size_eq];exact hs
  clear HV HE HI HO hT hF hM hs hll hbv hbc hbe k0 k1 k3 hW1 hP bb1 kk1 hC hd0
  go_enter Tryz.func153,Tryz.ntmps153
  go_upto_region 1 with fail
  rw[HW1.out,HPE.out]
  go_wp2_with fail
  refine HVH.out.mono ?_
  rintro e w2 ⟨rfl,b2⟩
  have B2:=Lib.hid b2
  clear b2
  cases bv
  · go_wp2_with fail
    go_ret
    exact⟨rfl,BB1.out.trans (B2.out.mono BB1.out.size)⟩
  go_wp2_with fail
  refine(HEH.out _).mono ?_
  rintro e w3 ⟨rfl,b3⟩
  have B3:=Lib.hid (B2.out.trans (b3.mono B2.out.size))
  clear b3
  cases bc
  · go_wp2_with fail
    go_ret
    exact⟨rfl,BB1.out.trans (B3.out.mono BB1.out.size)⟩
  go_wp2_with fail
  refine(HIH.out _ B3.out).mono ?_
  rintro e w4 ⟨rfl,b4⟩
  have B4:=Lib.hid (B3.out.trans (b4.mono B3.out.size))
  clear b4
  cases be
  case' true =>
    go_wp2_with fail
    go_ret
    exact⟨rfl,BB1.out.trans (B4.out.mono BB1.out.size)⟩
  go_wp2_with fail
  refine(HOH.out _ B4.out).mono ?_
  rintro e w5 ⟨hv,b5⟩
  have HVV:=Lib.hid hv
  have B5:=Lib.hid (B4.out.trans (b5.mono B4.out.size))
  clear hv b5
  rcases HVV.out with ⟨q,qu,rfl,hoe,hpp,hown,-,-,-,hql⟩ | ⟨hoe,rfl⟩
  · have hd:d0=decide (q=p):=by rw[← HD.out,hoe,hpp];simp
    have HQL:Hid (q.2.2.1.length≤l.length):=hql
    have HOW:=Lib.hid hown
    obtain⟨A,cap,rfl⟩:=hown.slice
    obtain⟨n,hn⟩:∃ n,q.2.2.1.length=n:=⟨_,rfl⟩
    obtain⟨x0,e0⟩:∃ a,bts q.1=a:=⟨_,rfl⟩
    obtain⟨x1,e1⟩:∃ a,bts q.2.1=a:=⟨_,rfl⟩
    obtain⟨x3,e3⟩:∃ a,bts q.2.2.2=a:=⟨_,rfl⟩
    have hsp:=pr_split q p
    rw[e0,e1,e3,K0.out,K1.out,K3.out] at hsp
    unfold agP
    rw[e0,e1,e3,hn]
    have HRD:Hid (ReadA w5 (.slice A n cap) q.2.2.1):=by have:=HOW.out.row.reads;rwa [hn] at this
    clear hown e0 e1 e3 hpp hoe
    go_upto_region 4 with fail
    obtain⟨W6,hW6⟩:∃ W6,w5.alloc (.cells #[.string x0,.string x1,.slice A n cap,.string x3] 41)=W6:=⟨_,rfl⟩
    obtain⟨Y,hY⟩:∃ Y,w5.heap.size=Y:=⟨_,rfl⟩
    have b6:Below w5.heap.size w5 W6:=by rw[← hW6];exact(Below.refl _ _).alloc (Nat.le_refl _) _
    have k6:Bk W6 Y 41 #[.string x0,.string x1,.slice A n cap,.string x3]:=by rw[← hW6,← hY];exact Bk.new _ _ _
    have y0:W6.cell? ⟨Y,0,none⟩=some (.string x0):=k6.cell 0
    have y1:W6.cell? ⟨Y,1,none⟩=some (.string x1):=k6.cell 1
    have y2:W6.cell? ⟨Y,2,none⟩=some (.slice A n cap):=k6.cell 2
    have y3:W6.cell? ⟨Y,3,none⟩=some (.string x3):=k6.cell 3
    have bb6:=B5.out.trans (b6.mono B5.out.size)
    have kk6:=KK1.out.below bb6 KK1.out.lt
    have p0:W6.cell? ⟨P,0,none⟩=some (.string b0):=kk6.cell 0
    have p1:W6.cell? ⟨P,1,none⟩=some (.string b1):=kk6.cell 1
    have p2:W6.cell? ⟨P,2,none⟩=some (.slice UA un ucap):=kk6.cell 2
    have p3:W6.cell? ⟨P,3,none⟩=some (.string b3):=kk6.cell 3
    have HS:=sEqual_any (.slice A n cap) (.slice UA un ucap) q.2.2.1 p.2.2.1 W6 (HRD.out.below b6) ((HU.out.below BB1.out).below bb6) (Nat.le_trans HQL.out HLL.out) (by omega)
    have BF:Hid (Below w.heap.size w W6):=BB1.out.trans (bb6.mono BB1.out.size)
    obtain⟨d,hdd⟩:∃ d,decide (q.2.2.1=p.2.2.1)=d:=⟨_,rfl⟩
    rw[hdd] at HS hsp
    have HSH:=Lib.hid HS
    have hcs:∃ e0 e1 e3:Bool,(x0.toList==b0.toList)=e0∧(x1.toList==b1.toList)=e1∧(x3.toList==b3.toList)=e3:=⟨_,_,_,rfl,rfl,rfl⟩
    obtain⟨e0,e1,e3,g0,g1,g3⟩:=hcs
    rw[g0,g1,g3] at hsp
    have HDD:Hid (d0=(e0&&(e1&&(e3&&d)))):=by unfold Hid;rw[hd,hsp]
    rw[hW6,hY]
    clear HS hW6 hY b6 k6 bb6 kk6 hdd hsp hd hn
    have hc2:e0=false∨(e0=true∧(e1=false∨(e1=true∧(e3=false∨e3=true)))):=by cases e0<;>cases e1<;>cases e3<;>simp
    rcases hc2 with rfl | ⟨rfl,rfl | ⟨rfl,rfl | rfl⟩⟩
    case' inr.inr.inr =>
      go_wp2_with (go_at_call 187;refine HSH.out.mono ?_;rintro e w7 ⟨rfl,b7⟩)
      go_ret
      exact⟨by rw[HDD.out];rfl,BF.out.trans (b7.mono BF.out.size)⟩
    all_goals
      go_wp2_with fail
      go_ret
      exact⟨by rw[HDD.out];rfl,BF.out⟩
  · have hd:d0=false:=by rw[← HD.out,decide_eq_false hoe,Bool.false_and]
    subst hd
    obtain⟨z,hz⟩:∃ z:Int,((ownE l:Nat):Int)=z:=⟨_,rfl⟩
    have gz:(z==0)=false:=beq_eq_false_iff_ne.2 (by omega)
    rw[hz]
    clear hz hoe
    go_wp2_with fail
    go_ret
    exact⟨rfl,(BB1.out.trans (B5.out.mono BB1.out.size)).alloc (Nat.le_trans BB1.out.size B5.out.size) _⟩
theorem may_com (p:Pr):comB (lineT p) p=mayB p:=by
  unfold comB mayB
  have hc:decide (Tx.clean (lineT p))=(lineT p).all (fun c=>c != 10&&c != 13):=by
    rw[Bool.eq_iff_iff,decide_eq_true_eq,List.all_eq_true]
    unfold Tx.clean
    simp only[Bool.and_eq_true,bne_iff_ne]
  rw[hc]
  by_cases hp:propL (lineT p)=some p
  · have ho:decide (ownE (lineT p)=0)=(decide (p.2.1≠beginN)&&decide (p.2.1≠versN)):=by
      unfold ownE
      rw[hp]
      simp only[ownN]
      by_cases h1:p.2.1=beginN<;>by_cases h2:p.2.1=versN<;>simp[h1,h2]
    rw[ho,decide_eq_true hp]
    cases Tx.valid (lineT p)<;>cases (lineT p).all (fun c=>c != 10&&c != 13)<;>cases decide (p.2.1≠beginN)<;>cases decide (p.2.1≠versN)<;>by_cases he:up (lineT p)=endT<;>simp[he]
  · rw[decide_eq_false hp,Bool.and_false,Bool.and_false,Bool.and_false,Bool.and_false]
    simp
end Go.Proofs.YtfbdnaclkfmiaaaGreatDoor
end
section
namespace Go.Proofs.YtfbdnaclkfmiaaaGreatDoor
open Go.RowKit Tx
theorem OwnT.cap {B:Nat} {w:World} {g cap n:Nat} {x:List ByteArray} (h:OwnT B w (.slice (Option.some ⟨g,0,none⟩) n cap) x):x.length≤cap:=by
  rcases h.2 with ⟨e,_⟩ | ⟨g',cap',cur,e,_,_,h4,_⟩
  · simp at e
  · simp at e
    rw[e.2.2]
    exact h4
theorem rowsL_ne (l:List UInt8):sts (rowsL l)≠[]:=by
  intro h
  have:=congrArg List.length h
  rw[sts_len,rowsL_ivs,List.length_map,List.length_nil] at this
  have h2:=(ivs_len (brk 0 (chs l)) 0 0).1
  omega
theorem rowsL_join (l:List UInt8):Lib.join (rowsL l) [13,10,32]++[13,10]=foldOne l:=fold_join l
theorem rowsL_len (l:List UInt8):(rowsL l).length≤l.length+1:=by
  rw[rowsL_ivs,List.length_map]
  have h1:=(ivs_len (brk 0 (chs l)) 0 0).2
  have h2:=chs_len l
  rw[brk_len] at h1
  omega
theorem btl_sts (l:List (List UInt8)):(sts l).map (·.data.toList)=l:=by
  unfold sts
  rw[List.map_map]
  conv=>rhs;rw[← List.map_id l]
  rfl
set_option maxHeartbeats 4000000 in
set_option maxRecDepth 100000 in
theorem fold_any (v:Value) (xs:List ByteArray) (w:World) (hT:Tabs w) (hx:ReadT w.heap.size w v xs) (hb:bulk xs < 1000000) :
    Calls Tryz.prog 126 #[v] w fun e w'=>e=.returned (.string ⟨(foldL (btl xs)).toArray⟩)∧Below w.heap.size w w':=by
  obtain⟨A,cap,rfl,hx2⟩:=hx
  have hlen:=bulk_len xs
  have B0:=Bld.start w
  have D0:Below w.heap.size w (w.alloc (.cells #[.pointer none,.slice none 0 0] 113)):=(Below.refl _ _).alloc (Nat.le_refl _) _
  have HT:=Lib.hid (fun (W:World) (h:Below w.heap.size w W)=>hT.below h)
  have HR:=Lib.hid (fun (s:ByteArray) (W:World) h1 h2=>rowsOf_any s W h1 h2)
  have HJ:=Lib.hid (fun bk o c xs W h1 h2 h3 h4 h5=>Tryz.strings_Join bk o c xs ⟨#[13,10,32]⟩ W h1 h2 h3 h4 h5)
  obtain⟨b,hb'⟩:∃ b,w.heap.size=b:=⟨_,rfl⟩
  rw[hb'] at B0 D0 HT hx2
  have HB:=Lib.hid hb'
  have HX:=Lib.hid hx2
  clear hx2
  go_enter Tryz.func126,Tryz.ntmps126
  go_wp2_with fail
  go_loopw [8] (fun at_ wr=>∃ (k:Nat),k≤xs.length∧at_=.int .i64 k∧Bld b (b+1) (foldL (btl (xs.take k))) wr∧Below b w wr) (fun at_ _=>xs.length - (intOf at_).toNat)
  case atStart=>exact⟨0,Nat.zero_le _,rfl,B0,D0⟩
  case round =>
    obtain⟨k,hk,rfl,hbld,hbw⟩:=hrel
    have hsw:=hbw.size
    have hbC:=hbld.lt
    by_cases hlt:k < xs.length
    · obtain⟨ad,rfl,hlb,hc⟩:=HX.out (by omega)
      obtain⟨p,hp⟩:∃ p,xs[k]?=some p:=⟨_,List.getElem?_eq_getElem hlt⟩
      have c0:=hc k p hp
      rw[← hbw.cell (p:=ad.add k) (by rw[addBlock];exact hlb)] at c0
      have hps:=bulk_one hp
      have hst:=Lib.hid (foldL_take hp)
      have HRp:=Lib.hid (HR.out p wr (HT.out wr hbw) (by omega))
      have hfo:=foldOne_size p.data.toList
      rw[← Lib.size_eq] at hfo
      have hrj:=rowsL_join p.data.toList
      have hrn:=rowsL_ne p.data.toList
      have hrl:=rowsL_len p.data.toList
      rw[← Lib.size_eq] at hrl
      have hbt:=btl_sts (rowsL p.data.toList)
      have hjl:(Lib.join (rowsL p.data.toList) [13,10,32]).length≤4*p.size:=by
        have:=congrArg List.length hrj
        rw[List.length_append] at this
        simp at this
        omega
      have hJx:=HJ.out
      obtain⟨R,hR⟩:∃ R,rowsL p.data.toList=R:=⟨_,rfl⟩
      rw[hR] at HRp hrj hrn hrl hbt hjl
      obtain⟨J,hJ⟩:∃ J,Lib.join R [13,10,32]=J:=⟨_,rfl⟩
      have hol:(foldL (btl (xs.take k))).length≤4000000:=by
        have h1:=foldL_size (xs.take k)
        have h2:=bulk_take xs k
        omega
      obtain⟨out,hout⟩:∃ out,foldL (btl (xs.take k))=out:=⟨_,rfl⟩
      rw[hout] at hbld hst hol
      have hJs:(⟨J.toArray⟩:ByteArray).size≤4*p.size:=by rw[Lib.size_eq,← hJ];exact hjl
      have hJl:J.length≤140737488355328:=by rw[← hJ];omega
      have HW1:=Lib.hid (fun (W:World) h=>bld_string b (b+1) out ⟨J.toArray⟩ W h (by omega))
      have HW2:=Lib.hid (fun (W:World) h=>bld_string b (b+1) (out++J) ⟨#[13,10]⟩ W h (by rw[List.length_append,show J.length=(⟨J.toArray⟩:ByteArray).size from (Lib.size_eq ⟨J.toArray⟩).symm,show (⟨#[13,10]⟩:ByteArray).size=2 from rfl];omega))
      have hnx:Hid (foldL (btl (xs.take (k+1)))=out++J++(⟨#[13,10]⟩:ByteArray).data.toList):=by unfold Hid;rw[hst.out,← hrj,hJ,List.append_assoc]
      have HRn:=Lib.hid hrn
      have HBT:=Lib.hid hbt
      have HJe:=Lib.hid hJ
      clear hc hp hst hfo hrj hrn hbt hjl hR hJ hout hJs hJx
      go_wp2_with fail
      refine HRp.out.mono ?_
      rintro e w1 ⟨v1,rfl,hown1,b1⟩
      obtain⟨g,cap1,rfl⟩:=hown1.some HRn.out
      have hs1:=b1.size
      have hgl:=hown1.low (j:=g) rfl
      have hJx:=HJ.out g 0 cap1 (sts R) w1 (fun j y hy=>by rw[Nat.zero_add];exact(hown1.at hy).1) hgl.2 (by rw[sts_len];omega) (OwnT.cap hown1) (by rw[HBT.out,HJe.out];exact hJl)
      rw[HBT.out,HJe.out] at hJx
      have HJx:=Lib.hid hJx
      have bl1:Bld b (b+1) out w1:=hbld.below b1
      have d1:Below b w w1:=hbw.trans (b1.mono (by omega))
      clear hJx hbld hbw hown1 b1
      go_wp2_with fail
      refine HJx.out.mono ?_
      rintro e w2 ⟨rfl,b2⟩
      have bl2:Bld b (b+1) out w2:=bl1.below b2
      have d2:Below b w w2:=d1.trans (b2.mono (by omega))
      clear bl1 d1 b2
      go_wp2_with fail
      refine(HW1.out _ bl2).mono ?_
      rintro e w3 ⟨rfl,bl3,t3⟩
      go_wp2_with fail
      refine(HW2.out _ bl3).mono ?_
      rintro e w4 ⟨rfl,bl4,t4⟩
      go_wp2_with fail
      go_roundw
      case rel=>exact⟨k+1,by omega,by go_num,by rw[hnx.out];exact bl4,(d2.trans t3.below).trans t4.below⟩
      case measure=>simp[intOf];omega
    · have hall:xs.take k=xs:=List.take_of_length_le (by omega)
      rw[hall] at hbld
      have HS:=Lib.hid (bld_String b (b+1) _ wr hbld)
      clear hall
      go_wp2_with fail
      refine HS.out.mono ?_
      rintro e w5 ⟨rfl,b5⟩
      go_wp2_with fail
      go_ret
      exact⟨rfl,by rw[HB.out];exact hbw.trans b5⟩
end Go.Proofs.YtfbdnaclkfmiaaaGreatDoor
end
section
namespace Go.Proofs.YtfbdnaclkfmiaaaGreatDoor
open Go.RowKit Vc
def Mild (c:List Pr):Prop:=∀ p∈c,(lineT p).length≤1000000000
theorem Mild.few {p:Pr} (h:(lineT p).length≤1000000000):p.2.2.1.length≤1000000000:=by
  have h1:=Vc.flat_len p.2.2.1
  have h2:=line_parts p
  omega
theorem comesLine_any (p:Pr) (u:Value) (w:World) (hT:Tabs w) (hF:Folds w) (hM:MaxL w) (hu:ReadA w u p.2.2.1) (hp:(lineT p).length≤1000000000) :
    Calls Tryz.prog 153 #[.string (bts (lineT p)),agP p u] w fun e w'=>e=.returned (.bool (mayB p))∧Below w.heap.size w w' :=
  (comesBack_any (bts (lineT p)) p u w hT hF hM (by rw[bts_size];exact hp) hu (Mild.few hp)).mono fun e w' ⟨h1,h2⟩=>⟨h1.trans (congrArg (fun b=>Ending.returned (.bool b)) (may_com p)),h2⟩
def WrittenV (B:Nat) (c:List Pr) (e:Ending) (w':World):Prop :=
  (∃ v,e=.returned (.tuple #[v,.bool true])∧OwnT B w' v (sts (c.map lineT))∧c.length≤40∧∀ p∈c,mayB p=true)∨(e=.returned (.tuple #[.slice none 0 0,.bool false])∧¬ (c.length≤40∧∀ p∈c,mayB p=true))
set_option maxHeartbeats 4000000 in
set_option maxRecDepth 100000 in
theorem written_any (v:Value) (c:List Pr) (w:World) (hT:Tabs w) (hF:Folds w) (hM:MaxL w) (hR:ReadP w v c) (hc:Mild c) (hcl:c.length≤1000000000) :
    Calls Tryz.prog 125 #[v] w fun e w'=>WrittenV w.heap.size c e w'∧Below w.heap.size w w':=by
  obtain⟨A,cap,rfl,hcell⟩:=hR
  obtain⟨n,hn⟩:∃ n,c.length=n:=⟨_,rfl⟩
  have HN:=Lib.hid hn
  rw[hn] at hcell hcl ⊢
  by_cases h40:40 < n
  · have hno:Hid (¬ (c.length≤40∧∀ p∈c,mayB p=true)):=fun h=>by have:=h.1;have:=HN.out;omega
    clear hcell hn hT hF hM hc
    go_enter Tryz.func125,Tryz.ntmps125
    go_wp2_with fail
    go_ret2
    exact⟨.inr ⟨rfl,hno.out⟩,Below.refl _ _⟩
  have HC:=Lib.hid hcell
  have HMI:=Lib.hid hc
  have HLO:=Lib.hid (fun (p:Pr) (u:Value) (W:World) (h:Below w.heap.size w W) (hu:ReadA W u p.2.2.1) (hp:(lineT p).length≤1000000000)=>lineOf_any p u W hu hp)
  have HCB:=Lib.hid (fun (p:Pr) (u:Value) (W:World) (h:Below w.heap.size w W) (hu:ReadA W u p.2.2.1) (hp:(lineT p).length≤1000000000)=>comesLine_any p u W (hT.below h) (hF.below h) (hM.below h) hu hp)
  obtain⟨D,hD⟩:∃ D,w.heap.size=D:=⟨_,rfl⟩
  have HDE:=Lib.hid hD
  have HO0:Hid (OwnT D w (.slice none 0 0) (sts ((c.take 0).map lineT))):=OwnT.nil _ _
  have HB0:Hid (Below w.heap.size w w):=Below.refl _ _
  have HA0:Hid (∀ p∈c.take 0,mayB p=true):=fun p hp=>by cases hp
  clear hcell hn hT hF hM hc hD
  go_enter Tryz.func125,Tryz.ntmps125
  go_wp2_with fail
  go_loopw [4,13] (fun lv iv wr=>∃ (k:Nat) (lx:Value),lv=lx∧iv=.int .i64 k∧k≤n∧Hid (OwnT D wr lx (sts ((c.take k).map lineT)))∧Hid (Below w.heap.size w wr)∧Hid (∀ p∈c.take k,mayB p=true)) (fun _ iv _=>n - (intOf iv).toNat)
  case atStart=>exact⟨0,_,rfl,rfl,Nat.zero_le _,HO0,HB0,HA0⟩
  case round =>
    obtain⟨k,lx,hlx,rfl,hkn,HO,HBW,HALL⟩:=hrel
    have hlx2:=hlx.symm
    subst hlx2
    by_cases hlt:k < n
    · obtain⟨ad,rfl,hlb,hcell⟩:=HC.out (by omega)
      obtain⟨p,hp⟩:∃ p,c[k]?=some p:=⟨_,List.getElem?_eq_getElem (by rw[HN.out];exact hlt)⟩
      obtain⟨u,hat,hru⟩:=hcell k p hp
      obtain⟨c0,c1,c2,c3⟩:=hat.of (w':=wr) (HBW.out.block _ (by rw[addBlock];exact hlb))
      have hru2:=hru.below HBW.out
      have hpm:=HMI.out p (List.mem_of_getElem? hp)
      have HPM:=Lib.hid hpm
      obtain⟨UA,ucap,hua,-⟩:=hru
      obtain⟨un,hun⟩:∃ un,p.2.2.1.length=un:=⟨_,rfl⟩
      rw[hun] at hua
      subst hua
      have HRU:=Lib.hid hru2
      obtain⟨x0,e0⟩:∃ a,bts p.1=a:=⟨_,rfl⟩
      obtain⟨x1,e1⟩:∃ a,bts p.2.1=a:=⟨_,rfl⟩
      obtain⟨x3,e3⟩:∃ a,bts p.2.2.2=a:=⟨_,rfl⟩
      have HEX:Hid (agP p (.slice UA un ucap)=.agg #[.string x0,.string x1,.slice UA un ucap,.string x3]):=by unfold Hid agP;rw[e0,e1,e3]
      rw[e0] at c0
      rw[e1] at c1
      rw[e3] at c3
      have htk:Hid (c.take (k+1)=c.take k++[p]):=by unfold Hid;rw[List.take_add_one,hp];rfl
      have HZ:Hid (w.heap.size≤wr.heap.size):=HBW.out.size
      have hkl:Hid ((sts ((c.take k).map lineT)).length=k):=by unfold Hid;rw[sts_len,List.length_map,List.length_take,HN.out];omega
      have HMEM:Hid (p∈c):=List.mem_of_getElem? hp
      clear hcell hat hp e0 e1 e3 hru2 hun hpm hlx
      go_upto_region 7 with fail
      obtain⟨W5,hW5⟩:∃ W5,wr.alloc (.cells #[.string x0,.string x1,.slice UA un ucap,.string x3] 41)=W5:=⟨_,rfl⟩
      obtain⟨Y,hY⟩:∃ Y,wr.heap.size=Y:=⟨_,rfl⟩
      have b5:Below wr.heap.size wr W5:=by rw[← hW5];exact(Below.refl _ _).alloc (Nat.le_refl _) _
      have k5:Bk W5 Y 41 #[.string x0,.string x1,.slice UA un ucap,.string x3]:=by rw[← hW5,← hY];exact Bk.new _ _ _
      have y0:W5.cell? ⟨Y,0,none⟩=some (.string x0):=k5.cell 0
      have y1:W5.cell? ⟨Y,1,none⟩=some (.string x1):=k5.cell 1
      have y2:W5.cell? ⟨Y,2,none⟩=some (.slice UA un ucap):=k5.cell 2
      have y3:W5.cell? ⟨Y,3,none⟩=some (.string x3):=k5.cell 3
      have K5:=Lib.hid k5
      have B5:Hid (Below w.heap.size w W5):=HBW.out.trans (b5.mono HZ.out)
      have O5:=Lib.hid (HO.out.below b5)
      have R5:=Lib.hid (HRU.out.below b5)
      have hl5:=HLO.out p (.slice UA un ucap) W5 B5.out R5.out HPM.out
      rw[HEX.out] at hl5
      have HL5:=Lib.hid hl5
      rw[hW5,hY]
      clear b5 k5 hW5 hY c0 c1 c2 c3 hl5
      go_wp2_with fail
      refine HL5.out.mono ?_
      rintro e w6 ⟨rfl,b6⟩
      have B6:Hid (Below w.heap.size w w6):=B5.out.trans (b6.mono B5.out.size)
      have O6:=Lib.hid (O5.out.below b6)
      have k6:=K5.out.below b6 K5.out.lt
      have z0:w6.cell? ⟨Y,0,none⟩=some (.string x0):=k6.cell 0
      have z1:w6.cell? ⟨Y,1,none⟩=some (.string x1):=k6.cell 1
      have z2:w6.cell? ⟨Y,2,none⟩=some (.slice UA un ucap):=k6.cell 2
      have z3:w6.cell? ⟨Y,3,none⟩=some (.string x3):=k6.cell 3
      have hc6:=HCB.out p (.slice UA un ucap) w6 B6.out (R5.out.below b6) HPM.out
      rw[HEX.out] at hc6
      obtain⟨lb,hlbe⟩:∃ lb,bts (lineT p)=lb:=⟨_,rfl⟩
      have HLB:=Lib.hid hlbe
      obtain⟨mb,hmb⟩:∃ mb,mayB p=mb:=⟨_,rfl⟩
      have HMB:=Lib.hid hmb
      rw[hlbe,hmb] at hc6
      have HC6:=Lib.hid hc6
      rw[hlbe]
      clear hc6 b6 k6 y0 y1 y2 y3 hlbe hmb
      go_wp2_with fail
      refine HC6.out.mono ?_
      rintro e w7 ⟨rfl,b7⟩
      have B7:Hid (Below w.heap.size w w7):=B6.out.trans (b7.mono B6.out.size)
      have O7:=Lib.hid (O6.out.below b7)
      clear b7 z0 z1 z2 z3
      cases mb
      · have hno:Hid (¬ (c.length≤40∧∀ p∈c,mayB p=true)):=fun h=>by have:=h.2 p HMEM.out;rw[HMB.out] at this;cases this
        go_wp2_with fail
        go_ret2
        exact⟨.inr ⟨rfl,hno.out⟩,B7.out⟩
      · obtain⟨LA,lcap,rfl⟩:∃ A cap,lx=.slice A k cap:=by
          obtain⟨A,cap,e⟩:=O7.out.slice
          rw[hkl.out] at e
          exact⟨A,cap,e⟩
        have Z7:Hid (D≤w7.heap.size):=by rw[← HDE.out];exact B7.out.size
        have HAL:Hid ((sts ((c.take k).map lineT)).length≤1000000000000):=by unfold Hid;rw[hkl.out];omega
        go_wp2_with (at_builtin;refine push_str rfl _ _ rfl D (.slice LA k lcap) _ lb w7 rfl O7.out rfl HAL.out Z7.out ?_)
        intro v8 w8 o8 b8
        have O8:Hid (OwnT D w8 v8 (sts ((c.take (k+1)).map lineT))):=by
          unfold Hid
          rw[htk.out,List.map_append,List.map_singleton,sts_snoc,show (⟨(lineT p).toArray⟩:ByteArray)=lb from HLB.out,List.map_take]
          exact o8
        have A8:Hid (∀ p∈c.take (k+1),mayB p=true):=fun q hq=>by
          rw[htk.out] at hq
          rcases List.mem_append.1 hq with hq | hq
          · exact HALL.out q hq
          · rw[List.mem_singleton] at hq;subst hq;exact HMB.out
        have B8:Hid (Below w.heap.size w w8):=by
          have:=B7.out
          rw[HDE.out] at this ⊢
          exact this.trans b8
        clear o8 b8
        go_wp2_with fail
        go_roundw
        case rel=>exact⟨k+1,_,rfl,by go_num,by omega,O8,B8,A8⟩
        case measure=>simp[intOf];omega
    · have hke:k=n:=by omega
      have hcn:Hid (c.take k=c):=List.take_of_length_le (by rw[HN.out];omega)
      have HOE:=HO.out
      have HAE:=HALL.out
      rw[hcn.out] at HOE HAE
      have HOF:=Lib.hid HOE
      have HAF:=Lib.hid HAE
      obtain⟨LA,lcap,rfl⟩:=HO.out.slice
      clear hlx HOE HAE hke
      go_wp2_with fail
      go_ret2
      exact⟨.inl ⟨_,rfl,by rw[HDE.out];exact HOF.out,by rw[HN.out];omega,HAF.out⟩,HBW.out⟩
end Go.Proofs.YtfbdnaclkfmiaaaGreatDoor
end
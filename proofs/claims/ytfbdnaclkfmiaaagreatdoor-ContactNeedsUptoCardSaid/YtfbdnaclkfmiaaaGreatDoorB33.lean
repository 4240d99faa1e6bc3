import Derived.Test.YtfbdnaclkfmiaaaGreatDoorB31
import Derived.Laws.AppendOwnNone
import Derived.Test.YtfbdnaclkfmiaaaGreatDoorB32
import Derived.Sort.Grow
import Derived.Test.YtfbdnaclkfmiaaaGreatDoorB20
import Derived.Test.YtfbdnaclkfmiaaaGreatDoorB30
import Derived.Test.YtfbdnaclkfmiaaaGreatDoorB28
section
namespace Go.Proofs.YtfbdnaclkfmiaaaGreatDoor
open Go.RowKit Vc
theorem OwnT.kept {B:Nat} {w w':World} {v:Value} {x:List ByteArray} (h:OwnT B w v x) (hb:∀ g,v.ownBlock=Option.some g→w'.heap[g]?=w.heap[g]?):OwnT B w' v x :=
  ⟨h.1,h.2.imp id fun ⟨g,cap,cur,k1,k2,k3,k4⟩=>⟨g,cap,cur,k1,k2,(hb g (by rw[k1];rfl)).trans k3,k4⟩⟩
theorem strs_append (a b:List ByteArray):strs (a++b)=strs a++strs b:=by unfold strs;rw[List.map_append]
theorem sts_append (a b:List (List UInt8)):sts (a++b)=sts a++sts b:=by unfold sts;rw[List.map_append]
theorem push_row {ops:Array Oper} {rest:List Oper} {o:Oper} {a:Act} {Q:Exit→Act→World→Prop} (hgd:o.guard=none) (s x:Operand) (ho:o.op=.call { callee:=.builtin .append,args:=#[s,x],argTypes:=#[23,23] })
    (B:Nat) (v:Value) (xs ys:List ByteArray) (w:World) (hs:a.eval s=v) (hown:OwnT B w v xs) (ad:Addr) (c:Nat) (hx:a.eval x=.slice (some ad) ys.length c) (hc:∀ i b,ys[i]?=some b→w.cell? (ad.add i)=some (.string b))
    (hn:xs.length+ys.length≤1000000000000) (hB:B≤w.heap.size)
    (h:∀ v' w',OwnT B w' v' (xs++ys)→Below B w w'→(∀ k,k < w.heap.size→some k≠v.ownBlock→w'.heap[k]?=w.heap[k]?)→wpList Tryz.prog ops Q rest (a.put o.dst v') w'):wpList Tryz.prog ops Q (o::rest) a w:=by
  obtain⟨i0,hi,hz0,hz1,hz2⟩:=info_parts infoStr
  have hown':w.ownsRow B 9 1 v xs.length (strs xs):=hown
  refine wpList_append_own _ hgd s x 23 ho B 9 i0 _ 1 16 Tryz.underlying23 hi hz0 hz1 hz2 rfl (by decide) v xs.length (strs xs) hs hown' ad ys.length c (strs ys) hx (by rw[strs_length,Nat.mul_one]) ?_ ?_ ?_ (by omega) hB ?_
  · intro j u hj
    unfold strs at hj
    rw[List.getElem?_map] at hj
    obtain⟨b,hb,rfl⟩:=Option.map_eq_some_iff.1 hj
    exact hc j b hb
  · intro u hu
    unfold strs at hu
    obtain⟨b,_,rfl⟩:=List.mem_map.1 hu
    rfl
  · unfold maxLen;omega
  · intro v' w' h1 hg _
    refine h v' w' ?_ ((Below.refl B w).grown hg hB (fun j hj=>(World.ownsRow.lt hown' j hj).1)) (fun k hk hne=>hg.block k hk hne)
    unfold OwnT
    rw[strs_append,List.length_append]
    exact h1
theorem push_strs {ops:Array Oper} {rest:List Oper} {o:Oper} {a:Act} {Q:Exit→Act→World→Prop} (hgd:o.guard=none) (s x:Operand) (ho:o.op=.call { callee:=.builtin .append,args:=#[s,x],argTypes:=#[23,23] })
    (B D:Nat) (v u:Value) (xs ys:List ByteArray) (w:World) (hs:a.eval s=v) (hown:OwnT B w v xs) (hx:a.eval x=u) (hy:OwnT D w u ys)
    (hn:xs.length+ys.length≤1000000000000) (hB:B≤w.heap.size)
    (h:∀ v' w',OwnT B w' v' (xs++ys)→Below B w w'→(∀ k,k < w.heap.size→some k≠v.ownBlock→w'.heap[k]?=w.heap[k]?)→wpList Tryz.prog ops Q rest (a.put o.dst v') w'):wpList Tryz.prog ops Q (o::rest) a w:=by
  have hy':w.ownsRow D 9 1 u ys.length (strs ys):=hy
  rcases hy'.2 with ⟨rfl,h0⟩ | ⟨g,cap,cur,rfl,_,hh,_⟩
  · obtain⟨i0,hi,hz0,hz1,hz2⟩:=info_parts infoStr
    obtain rfl:ys=[]:=List.eq_nil_of_length_eq_zero h0
    refine wpList_append_own_none hgd s x 23 ho B 9 i0 1 Tryz.underlying23 hi v xs.length (strs xs) hs hown hx (h _ _ ?_ (Below.refl _ _) (fun _ _ _=>rfl))
    rw[List.append_nil]
    exact hown
  · refine push_row hgd s x ho B v xs ys w hs hown ⟨g,0,none⟩ cap hx (fun i b hb=>?_) hn hB h
    exact hy'.cells (g:=g) rfl i _ (strs_get hb)
def bulkV (l:List (List Pr)):Nat:=bulk (sts (l.flatMap cardT))
theorem bulk_append (a b:List ByteArray):bulk (a++b)=bulk a+bulk b:=by unfold bulk;rw[List.map_append,List.sum_append]
theorem bulkV_take (l:List (List Pr)) (k:Nat):bulkV (l.take k)≤bulkV l:=by
  have h:l.flatMap cardT=(l.take k).flatMap cardT++(l.drop k).flatMap cardT:=by rw[← List.flatMap_append,List.take_append_drop]
  unfold bulkV
  conv=>rhs;rw[h,sts_append,bulk_append]
  omega
theorem cards_take {l:List (List Pr)} {k:Nat} {c:List Pr} (h:l[k]?=some c):sts ((l.take (k+1)).flatMap cardT)=sts ((l.take k).flatMap cardT)++[bts beginT,bts versT]++sts (c.map lineT)++[bts endT]:=by
  rw[List.take_add_one,h]
  show sts ((l.take k++[c]).flatMap cardT)=_
  rw[List.flatMap_append,sts_append]
  have:([c].flatMap cardT)=[beginT,versT]++c.map lineT++[endT]:=by simp[cardT]
  rw[this,sts_append,sts_append]
  simp[sts]
def WritesV (B:Nat) (w:World) (l:List (List Pr)) (e:Ending) (w':World):Prop:=e=.returned (.tuple #[.string (bts (writeV l).1),.int .i64 ((writeV l).2:Nat)])∧Below B w w'
theorem right_all {l:List (List Pr)} (h1:l.length≤60) (h2:∀ c∈l,c.length≤40∧∀ p∈c,mayB p=true):rightV l=true:=right_iff.2 ⟨h1,h2⟩
theorem right_bad {l:List (List Pr)} {c:List Pr} (hc:c∈l) (h:¬ (c.length≤40∧∀ p∈c,mayB p=true)):writeV l=([],12):=by
  unfold writeV
  rw[if_neg]
  intro hr
  exact h ((right_iff.1 hr).2 c hc)
theorem right_many {l:List (List Pr)} (h:60 < l.length):writeV l=([],12):=by
  unfold writeV
  rw[if_neg]
  intro hr
  have:=(right_iff.1 hr).1
  omega
theorem write_right {l:List (List Pr)} (h:rightV l=true):writeV l=if 20000 < (Tx.foldL (l.flatMap cardT)).length then ([],4) else (Tx.foldL (l.flatMap cardT),0):=by
  unfold writeV
  rw[if_pos h]
theorem btl_sts2 (m:List (List UInt8)):btl (sts m)=m:=by
  unfold btl sts
  rw[List.map_map]
  conv=>rhs;rw[← List.map_id m]
  rfl
set_option maxHeartbeats 4000000 in
set_option maxRecDepth 100000 in
theorem write_any (v:Value) (l:List (List Pr)) (w:World) (hT:Tabs w) (hF:Folds w) (hM:MaxL w) (hR:ReadV w v l) (hc:∀ c∈l,Mild c∧c.length≤1000000000) (hll:l.length≤1000000000) (hbk:bulkV l < 1000000) :
    Calls Tryz.prog 96 #[v] w (WritesV w.heap.size w l):=by
  obtain⟨A,cap,rfl,hcell⟩:=hR
  obtain⟨n,hn⟩:∃ n,l.length=n:=⟨_,rfl⟩
  have HN:=Lib.hid hn
  rw[hn] at hcell hll ⊢
  by_cases h60:60 < n
  · have hw:Hid (writeV l=([],12)):=right_many (by omega)
    clear hcell hn hT hF hM hc
    go_enter Tryz.func96,Tryz.ntmps96
    go_wp2_with fail
    go_ret2
    unfold WritesV
    rw[hw.out]
    exact⟨rfl,Below.refl _ _⟩
  have HC:=Lib.hid hcell
  have HMI:=Lib.hid hc
  have HBK:=Lib.hid hbk
  have HWN:=Lib.hid (fun (u:Value) (c:List Pr) (W:World) (h:Below w.heap.size w W) (hu:ReadP W u c) (hm:Mild c∧c.length≤1000000000)=>written_any u c W (hT.below h) (hF.below h) (hM.below h) hu hm.1 hm.2)
  have HFO:=Lib.hid (fun (u:Value) (xs:List ByteArray) (W:World) (h:Below w.heap.size w W) (hu:ReadT W.heap.size W u xs) (hb:bulk xs < 1000000)=>fold_any u xs W (hT.below h) hu hb)
  obtain⟨D,hD⟩:∃ D,w.heap.size=D:=⟨_,rfl⟩
  have HDE:=Lib.hid hD
  have HO0:Hid (OwnT D w (.slice none 0 0) (sts ((l.take 0).flatMap cardT))):=OwnT.nil _ _
  have HB0:Hid (Below D w w):=Below.refl _ _
  have HA0:Hid (∀ c∈l.take 0,c.length≤40∧∀ p∈c,mayB p=true):=fun p hp=>by cases hp
  have HUP:Hid (∀ W,Below D w W→Below w.heap.size w W):=fun W h=>by rw[hD];exact h
  clear hcell hn hT hF hM hc hD hbk
  go_enter Tryz.func96,Tryz.ntmps96
  go_wp2_with fail
  go_loopw [4,15] (fun lv iv wr=>∃ (k:Nat) (lx:Value),lv=lx∧iv=.int .i64 k∧k≤n∧Hid (OwnT D wr lx (sts ((l.take k).flatMap cardT)))∧Hid (Below D w wr)∧Hid (∀ c∈l.take k,c.length≤40∧∀ p∈c,mayB p=true)) (fun _ iv _=>n - (intOf iv).toNat)
  case atStart=>exact⟨0,_,rfl,rfl,Nat.zero_le _,HO0,HB0,HA0⟩
  case round =>
    obtain⟨k,lx,hlx,rfl,hkn,HO,HBW,HALL⟩:=hrel
    have hlx2:=hlx.symm
    subst hlx2
    by_cases hlt:k < n
    · obtain⟨ad,rfl,hlb,hcl⟩:=HC.out (by omega)
      obtain⟨c,hcc⟩:∃ c,l[k]?=some c:=⟨_,List.getElem?_eq_getElem (by rw[HN.out];exact hlt)⟩
      obtain⟨u,c0,hru⟩:=hcl k c hcc
      have hbw:=HUP.out _ HBW.out
      rw[← hbw.cell (p:=ad.add k) (by rw[addBlock];exact hlb)] at c0
      have HW1:=Lib.hid (HWN.out u c wr hbw (hru.below hbw) (HMI.out c (List.mem_of_getElem? hcc)))
      have HTK:=Lib.hid (cards_take hcc)
      have HMEM:Hid (c∈l):=List.mem_of_getElem? hcc
      have htk:Hid (l.take (k+1)=l.take k++[c]):=by unfold Hid;rw[List.take_add_one,hcc];rfl
      have hbt:=bulkV_take l (k+1)
      have HTB:Hid (bulk (sts ((l.take (k+1)).flatMap cardT)) < 1000000):=by have:=HBK.out;unfold Hid;unfold bulkV at hbt this;omega
      obtain⟨UA,ucap,rfl⟩:=hru.slice
      obtain⟨un,hun⟩:∃ un,c.length=un:=⟨_,rfl⟩
      rw[hun] at c0 HW1
      have HZ:Hid (D≤wr.heap.size):=by have:=hbw.size;have:=HDE.out;unfold Hid;omega
      clear hcl hcc hru hbw hbt hun hlx
      go_wp2_with fail
      refine HW1.out.mono ?_
      rintro e w1 ⟨hwv,b1⟩
      have HWV:=Lib.hid hwv
      have B1:Hid (Below D w w1):=HBW.out.trans (b1.mono HZ.out)
      have O1:=Lib.hid (HO.out.below b1)
      have Z1:Hid (D≤w1.heap.size):=Nat.le_trans HZ.out b1.size
      clear hwv b1
      rcases HWV.out with ⟨pv,rfl,hpo,h40,hma⟩ | ⟨rfl,hno⟩
      · have HPO:=Lib.hid hpo
        have A2:Hid (∀ c∈l.take (k+1),c.length≤40∧∀ p∈c,mayB p=true):=fun d hd=>by
          rw[htk.out] at hd
          rcases List.mem_append.1 hd with hd | hd
          · exact HALL.out d hd
          · rw[List.mem_singleton] at hd;subst hd;exact⟨h40,hma⟩
        obtain⟨XS,hXS⟩:∃ XS,sts ((l.take k).flatMap cardT)=XS:=⟨_,rfl⟩
        obtain⟨YS,hYS⟩:∃ YS,sts (c.map lineT)=YS:=⟨_,rfl⟩
        have htk2:=HTK.out
        rw[hXS,hYS] at htk2
        have HT2:=Lib.hid htk2
        have hlens:=bulk_len (sts ((l.take (k+1)).flatMap cardT))
        rw[htk2] at hlens
        have hbb:=HTB.out
        rw[htk2] at hbb
        simp only[List.length_append,List.length_cons,List.length_nil] at hlens
        rw[hXS] at O1
        rw[hYS] at HPO
        have HLN:Hid (XS.length≤1000000∧YS.length≤1000000):=⟨by omega,by omega⟩
        obtain⟨LA,ln,lcap,rfl⟩:∃ A n cap,lx=.slice A n cap:=by obtain⟨A,cap,e⟩:=O1.out.slice;exact⟨A,_,cap,e⟩
        obtain⟨PA,pn,pcap,rfl⟩:∃ A n cap,pv=.slice A n cap:=by obtain⟨A,cap,e⟩:=HPO.out.slice;exact⟨A,_,cap,e⟩
        clear hpo h40 hma hXS hYS htk2 hlens hbb
        obtain⟨S1,hS1⟩:∃ S1:ByteArray,⟨#[66,69,71,73,78,58,86,67,65,82,68]⟩=S1:=⟨_,rfl⟩
        have b2:Below w1.heap.size w1 (w1.alloc (.cells #[.string ⟨#[66,69,71,73,78,58,86,67,65,82,68]⟩,.string ⟨#[86,69,82,83,73,79,78,58,52,46,48]⟩] 9)):=(Below.refl _ _).alloc (Nat.le_refl _) _
        have O2:=Lib.hid (O1.out.below b2)
        have HP2:=Lib.hid (HPO.out.below b2)
        have Z2:Hid (D≤(w1.alloc (.cells #[.string ⟨#[66,69,71,73,78,58,86,67,65,82,68]⟩,.string ⟨#[86,69,82,83,73,79,78,58,52,46,48]⟩] 9)).heap.size):=Nat.le_trans Z1.out b2.size
        have HC2:Hid (∀ i b,[bts beginT,bts versT][i]?=some b→(w1.alloc (.cells #[.string ⟨#[66,69,71,73,78,58,86,67,65,82,68]⟩,.string ⟨#[86,69,82,83,73,79,78,58,52,46,48]⟩] 9)).cell? ((⟨w1.heap.size,0,none⟩:Addr).add i)=some (.string b)):=fun i b hb=>by
          rw[add_at,Nat.zero_add,(Bk.new w1 9 #[_,_]).cell]
          match i,hb with
          | 0,hb=>cases hb;rfl
          | 1,hb=>cases hb;rfl
          | i+2,hb=>simp at hb
        have B2:=Lib.hid b2
        have HL2:Hid (XS.length+[bts beginT,bts versT].length≤1000000000000):=by unfold Hid;simp only[List.length_cons,List.length_nil];have:=HLN.out.1;omega
        clear b2 hS1
        go_wp2_with (at_builtin;refine push_row rfl _ _ rfl D (.slice LA ln lcap) XS [bts beginT,bts versT] (w1.alloc (.cells #[.string ⟨#[66,69,71,73,78,58,86,67,65,82,68]⟩,.string ⟨#[86,69,82,83,73,79,78,58,52,46,48]⟩] 9)) rfl O2.out ⟨w1.heap.size,0,none⟩ 2 rfl HC2.out HL2.out Z2.out ?_)
        intro v3 w3 o3 b3 k3
        have HP3:Hid (OwnT wr.heap.size w3 (.slice PA pn pcap) YS):=HP2.out.kept (fun g hg=>k3 g (by have h0:=(World.ownsRow.lt HP2.out g hg).2;simpa using h0) (fun e=>by
          have h1:=(World.ownsRow.lt HP2.out g hg).1
          have h2:=(World.ownsRow.lt HO.out g e.symm).2
          omega))
        have O3:=Lib.hid o3
        have B3:Hid (Below D w w3):=(B1.out.trans (B2.out.mono Z1.out)).trans b3
        have Z3:Hid (D≤w3.heap.size):=Nat.le_trans Z2.out b3.size
        have HL3:Hid ((XS++[bts beginT,bts versT]).length+YS.length≤1000000000000):=by unfold Hid;simp only[List.length_append,List.length_cons,List.length_nil];have:=HLN.out;omega
        obtain⟨A3,n3,c3,rfl⟩:∃ A n cap,v3=.slice A n cap:=by obtain⟨A,cap,e⟩:=o3.slice;exact⟨A,_,cap,e⟩
        clear o3 b3 k3
        go_wp2_with (at_builtin;refine push_strs rfl _ _ rfl D wr.heap.size (.slice A3 n3 c3) (.slice PA pn pcap) (XS++[bts beginT,bts versT]) YS w3 rfl O3.out rfl HP3.out HL3.out Z3.out ?_)
        intro v4 w4 o4 b4 k4
        have O4:Hid (OwnT D w4 v4 (XS++[bts beginT,bts versT]++YS)):=by unfold Hid;simpa using o4
        have B4:Hid (Below D w w4):=B3.out.trans b4
        have Z4:Hid (D≤w4.heap.size):=Nat.le_trans Z3.out b4.size
        have HL4:Hid ((XS++[bts beginT,bts versT]++YS).length≤1000000000000):=by unfold Hid;simp only[List.length_append,List.length_cons,List.length_nil];have:=HLN.out;omega
        obtain⟨A4,n4,c4,rfl⟩:∃ A n cap,v4=.slice A n cap:=by obtain⟨A,cap,e⟩:=O4.out.slice;exact⟨A,_,cap,e⟩
        clear o4 b4 k4
        go_wp2_with (at_builtin;refine push_str rfl _ _ rfl D (.slice A4 n4 c4) (XS++[bts beginT,bts versT]++YS) ⟨#[69,78,68,58,86,67,65,82,68]⟩ w4 rfl O4.out rfl HL4.out Z4.out ?_)
        intro v5 w5 o5 b5
        have O5:Hid (OwnT D w5 v5 (sts ((l.take (k+1)).flatMap cardT))):=by unfold Hid;rw[HT2.out];show OwnT D w5 v5 (XS++[bts beginT,bts versT]++YS++[(⟨#[69,78,68,58,86,67,65,82,68]⟩:ByteArray)]);simpa using o5
        have B5:Hid (Below D w w5):=B4.out.trans b5
        clear o5 b5
        go_wp2_with fail
        go_roundw
        case rel=>exact⟨k+1,_,rfl,by go_num,by omega,O5,B5,A2⟩
        case measure=>simp[intOf];omega
      · have hw:Hid (writeV l=([],12)):=right_bad HMEM.out hno
        clear hno
        go_wp2_with fail
        go_ret2
        unfold WritesV
        rw[hw.out]
        exact⟨rfl,HUP.out _ B1.out⟩
    · have hke:k=n:=by omega
      have hcn:Hid (l.take k=l):=List.take_of_length_le (by rw[HN.out];omega)
      have hoe:=HO.out
      have hae:=HALL.out
      rw[hcn.out] at hoe hae
      have HR:Hid (rightV l=true):=right_all (by rw[HN.out];omega) hae
      have HFF:=HFO.out lx (sts (l.flatMap cardT)) wr (HUP.out _ HBW.out) hoe.reads HBK.out
      rw[btl_sts2] at HFF
      obtain⟨F,hF⟩:∃ F,Tx.foldL (l.flatMap cardT)=F:=⟨_,rfl⟩
      have hwr:=write_right HR.out
      rw[hF] at HFF hwr
      obtain⟨fb,hfb⟩:∃ fb:ByteArray,⟨F.toArray⟩=fb:=⟨_,rfl⟩
      have HFS:Hid (fb.size=F.length):=by rw[← hfb];exact Lib.size_eq _
      have HFB:Hid (fb=bts F):=hfb.symm
      rw[hfb] at HFF
      have HFH:=Lib.hid HFF
      have HWR:=Lib.hid hwr
      have HZ:Hid (D≤wr.heap.size):=by have:=(HUP.out _ HBW.out).size;have:=HDE.out;unfold Hid;omega
      obtain⟨LA,ln,lcap,rfl⟩:∃ A n cap,lx=.slice A n cap:=by obtain⟨A,cap,e⟩:=HO.out.slice;exact⟨A,_,cap,e⟩
      clear hlx hoe hae hF hfb hwr HFF hke
      go_wp2_with fail
      refine HFH.out.mono ?_
      rintro e w1 ⟨rfl,b1⟩
      have B1:Hid (Below D w w1):=HBW.out.trans (b1.mono HZ.out)
      clear b1
      by_cases hbig:20000 < F.length
      · have hbz:20000 < fb.size:=by rw[HFS.out];exact hbig
        have hw:Hid (writeV l=([],4)):=by unfold Hid;rw[HWR.out,if_pos hbig]
        clear hbig
        go_wp2_with fail
        go_ret2
        unfold WritesV
        rw[hw.out]
        exact⟨rfl,HUP.out _ B1.out⟩
      · have hbz:¬ 20000 < fb.size:=by rw[HFS.out];exact hbig
        have hw:Hid (writeV l=(F,0)):=by unfold Hid;rw[HWR.out,if_neg hbig]
        clear hbig
        go_wp2_with fail
        go_ret2
        unfold WritesV
        rw[hw.out,HFB.out]
        exact⟨rfl,HUP.out _ B1.out⟩
end Go.Proofs.YtfbdnaclkfmiaaaGreatDoor
end
section
namespace Go.Proofs.YtfbdnaclkfmiaaaGreatDoor
open Go.RowKit Vc Ct
structure But (S:Nat→Prop) (w w':World):Prop where
  os:w'.os=w.os
  tape:w'.tape=w.tape
  output:w'.output=w.output
  size:w.heap.size≤w'.heap.size
  block:∀ k,k < w.heap.size→¬ S k→w'.heap[k]?=w.heap[k]?
theorem But.refl (S:Nat→Prop) (w:World):But S w w:=⟨rfl,rfl,rfl,Nat.le_refl _,fun _ _ _=>rfl⟩
theorem But.trans {S:Nat→Prop} {a b c:World} (h:But S a b) (k:But S b c):But S a c :=
  ⟨k.os.trans h.os,k.tape.trans h.tape,k.output.trans h.output,Nat.le_trans h.size k.size,fun i hi hs=>(k.block i (Nat.lt_of_lt_of_le hi h.size) hs).trans (h.block i hi hs)⟩
theorem But.of_grown {S:Nat→Prop} {a b:World} {g:Nat} (h:a.grownBy b (some g)) (hs:S g):But S a b:=⟨h.os,h.tape,h.output,h.size,fun i hi hn=>h.block i hi (fun e=>by injection e with e;exact hn (e ▸ hs))⟩
theorem But.of_below {S:Nat→Prop} {B:Nat} {a b:World} (h:Below B a b) (hs:∀ i,B≤i→i < a.heap.size→S i):But S a b:=⟨h.os,h.tape,h.output,h.size,fun i hi hn=>h.block i (Nat.lt_of_not_le fun e=>hn (hs i e hi))⟩
theorem But.new {S:Nat→Prop} {a b:World} (h:Below a.heap.size a b):But S a b:=⟨h.os,h.tape,h.output,h.size,fun i hi _=>h.block i hi⟩
theorem But.bk {S:Nat→Prop} {a b:World} {g:Nat} {t:TypeId} {cs:Array Value} (h:But S a b) (hk:Bk a g t cs) (hn:¬ S g):Bk b g t cs:=(h.block g hk.lt hn).trans hk
theorem But.below {S:Nat→Prop} {a b:World} {B:Nat} (h:But S a b) (hB:B≤a.heap.size) (hn:∀ i,i < B→¬ S i):Below B a b:=⟨h.os,h.tape,h.output,h.size,fun i hi=>h.block i (by omega) (hn i hi)⟩
theorem But.grown {a b:World} {g:Nat} (h:But (·=g) a b):a.grownBy b (some g):=⟨h.os,h.tape,h.output,h.size,fun i hi hn=>h.block i hi (fun e=>hn (by rw[e]))⟩
def Txts (w:World) (h:Nat) (xs:List (List UInt8)):Prop:=∃ cs:Array Value,Bk w h 9 cs∧∀ (j:Nat) (x:List UInt8),xs[j]?=some x→cs[j]?=some (Value.string (bts x))
theorem Txts.cell {w:World} {h:Nat} {xs:List (List UInt8)} (t:Txts w h xs) {j:Nat} {x:List UInt8} (hj:xs[j]?=some x):w.cell? ⟨h,j,none⟩=some (.string (bts x)):=by
  obtain⟨cs,hk,hc⟩:=t
  rw[hk.cell]
  exact hc j x hj
theorem Txts.lt {w:World} {h:Nat} {xs:List (List UInt8)} (t:Txts w h xs):h < w.heap.size:=by
  obtain⟨cs,hk,_⟩:=t
  exact hk.lt
theorem Txts.but {S:Nat→Prop} {a b:World} {h:Nat} {xs:List (List UInt8)} (t:Txts a h xs) (hb:But S a b) (hn:¬ S h):Txts b h xs:=by
  obtain⟨cs,hk,hc⟩:=t
  exact⟨cs,hb.bk hk hn,hc⟩
theorem Txts.holds {w:World} {h:Nat} {xs:List (List UInt8)} (t:Txts w h xs):Go.Sort.Holds encStr w h 0 xs.toArray:=by
  obtain⟨cs,hk,hc⟩:=t
  intro j hj
  have hj2:j < xs.length:=by simpa using hj
  rw[Nat.zero_add,hk.cell,hc j xs[j] (List.getElem?_eq_getElem hj2),getElem!_pos _ j hj]
  exact⟨by simp[encStr],hk.free j⟩
theorem Txts.put {w:World} {h:Nat} {xs ys:List (List UInt8)} (t:Txts w h xs) (hl:ys.length=xs.length) (n:Nat) (os:Array Obj):Txts (Go.Sort.grow (Go.Sort.putRow encStr (Go.Sort.ahead w n) h 0 ys.toArray) os) h ys∧But (·=h) w (Go.Sort.grow (Go.Sort.putRow encStr (Go.Sort.ahead w n) h 0 ys.toArray) os):=by
  have hH:=t.holds
  have hlt:=t.lt
  obtain⟨cs,hk,hc⟩:=t
  have hsz:(Go.Sort.putRow encStr (Go.Sort.ahead w n) h 0 ys.toArray).heap.size=w.heap.size:=by rw[Go.Sort.size_putRow];rfl
  have hK:(Go.Sort.putRow encStr (Go.Sort.ahead w n) h 0 ys.toArray).heap[h]?=some (.cells (Go.Sort.putCells encStr 0 ys.toArray cs) 9 (0,0)):=by
    unfold Go.Sort.putRow Go.Sort.mapBlock
    have e:(Go.Sort.ahead w n).heap[h]?=some (.cells cs 9 (0,0)):=hk
    show ((Go.Sort.ahead w n).heap.modify h _)[h]?=_
    rw[Array.getElem?_modify,if_pos rfl,e]
    rfl
  refine⟨⟨Go.Sort.putCells encStr 0 ys.toArray cs,(Go.Sort.heap_grow_old _ os (by rw[hsz];exact hlt)).trans hK,fun j y hj=>?_⟩,⟨rfl,rfl,rfl,?_,fun i hi hne=>?_⟩⟩
  · have hj2:j < ys.length:=(List.getElem?_eq_some_iff.1 hj).1
    obtain⟨x,hx⟩:∃ x,xs[j]?=some x:=⟨_,List.getElem?_eq_getElem (by omega)⟩
    have hcj:=hc j x hx
    unfold Go.Sort.putCells
    rw[Array.getElem?_mapIdx,hcj,Option.map_some,if_pos ⟨Nat.zero_le _,by simpa using hj2⟩,Nat.sub_zero,getElem!_pos _ j (by simpa using hj2)]
    have e3:ys[j]=y:=(List.getElem?_eq_some_iff.1 hj).2
    rw[← e3]
    simp[encStr]
  · rw[Go.Sort.size_grow,hsz];omega
  · rw[Go.Sort.heap_grow_old _ os (by rw[hsz];exact hi)]
    unfold Go.Sort.putRow Go.Sort.mapBlock
    show ((Go.Sort.ahead w n).heap.modify h _)[i]?=_
    rw[Array.getElem?_modify,if_neg (fun e=>hne e.symm)]
    rfl
theorem compact_le (l:List (List UInt8)):(Lib.compact l).length≤l.length:=by
  unfold Lib.compact Lib.compactUpTo
  rw[List.length_map]
  exact Nat.le_trans (List.length_filter_le _ _) (by simp)
theorem But.on {S:Nat→Prop} {a b c:World} (h:But S a b) (k:Below a.heap.size b c):But S a c :=
  ⟨k.os.trans h.os,k.tape.trans h.tape,k.output.trans h.output,Nat.le_trans h.size k.size,fun i hi hs=>(k.block i hi).trans (h.block i hi hs)⟩
theorem Txts.below {w w':World} {h B:Nat} {xs:List (List UInt8)} (t:Txts w h xs) (hb:Below B w w') (hh:h < B):Txts w' h xs:=by
  obtain⟨cs,hk,hc⟩:=t
  exact⟨cs,hk.below hb hh,hc⟩
theorem Txts.set {w:World} {g h o:Nat} {xs:List (List UInt8)} (t:Txts w h xs) (hn:h≠g) (u:Value):Txts (w.setCell ⟨g,o,none⟩ u) h xs:=by
  obtain⟨cs,hk,hc⟩:=t
  exact⟨cs,hk.far hn u,hc⟩
theorem Txts.more {w:World} {h:Nat} {xs ys:List (List UInt8)} (t:Txts w h (xs++ys)):Txts w h xs:=by
  obtain⟨cs,hk,hc⟩:=t
  exact⟨cs,hk,fun j x hj=>hc j x (by rw[List.getElem?_append_left (List.getElem?_eq_some_iff.1 hj).1];exact hj)⟩
theorem OwnT.set {B g o:Nat} {w:World} {v u:Value} {x:List ByteArray} (h:OwnT B w v x) (hg:g < B):OwnT B (w.setCell ⟨g,o,none⟩ u) v x :=
  h.kept fun j hj=>Below.heap_setCell _ _ _ _ (by have:=(h.low hj).1;show j≠g;omega)
theorem con_groups (c:Con) (l:List (List UInt8)) (gv u o:Value):(conCells { c with groups:=l } gv o).setIfInBounds 9 u=conCells { c with groups:=l } u o:=rfl
set_option maxHeartbeats 4000000 in
set_option maxRecDepth 100000 in
theorem putGroups_any (g h cap:Nat) (c:Con) (o:Value) (xs:List (List UInt8)) (n:Nat) (hn:xs.length=n) (hnb:n≤1000000) (hcap:n≤cap) (W:World) (hk:Bk W g 25 (conCells c (.slice none 0 0) o)) (ht:Txts W h xs) :
    Calls Tryz.prog 73 #[.pointer (some ⟨g,0,none⟩),.slice (some ⟨h,0,none⟩) n cap] W fun e W'=>e=.returned (.int .i64 0)∧∃ gv,Bk W' g 25 (conCells { c with groups:=groupsL xs } gv o)∧OwnT W.heap.size W' gv (sts (groupsL xs))∧But (fun i=>i=g∨i=h) W W':=by
  have hgh:g≠h:=by
    obtain⟨cs,k,_⟩:=ht
    exact Bk.type_ne hk k (by decide)
  have HN:=Lib.hid hn
  have H1:=Tryz.slices_Sort_string h 0 cap xs W ht.holds ht.lt (by omega)
  rw[hn] at H1
  have HS:=Lib.hid H1
  have HT:=Lib.hid ht
  have HK:=Lib.hid hk
  have HGW:=Lib.hid (groups_way xs)
  have HGH:Hid (g≠h):=hgh
  obtain⟨B,hB⟩:∃ B,W.heap.size=B:=⟨_,rfl⟩
  have HB:=Lib.hid hB
  clear H1 hn ht hk hgh
  go_enter Tryz.func73,Tryz.ntmps73
  go_wp2_with fail
  refine HS.out.mono ?_
  rintro e w1 ⟨rfl,n1,os1,hw1⟩
  obtain⟨ys,hys⟩:∃ ys,(xs.mergeSort fun x y=>decide (x≤y))=ys:=⟨_,rfl⟩
  rw[hys] at hw1 HGW
  have hyl:ys.length=n:=by rw[← hys,List.length_mergeSort,HN.out]
  have hp1:=HT.out.put (ys:=ys) (by rw[hyl,HN.out]) n1 os1
  rw[← hw1] at hp1
  obtain⟨t1,b1⟩:=hp1
  have H2:=Tryz.slices_Compact_string h 0 cap ys w1 t1.holds (by omega) (by omega)
  rw[hyl] at H2
  have HC:=Lib.hid H2
  have T1:=Lib.hid t1
  have B1:=Lib.hid b1
  have HYL:=Lib.hid hyl
  clear hw1 hys t1 b1 H2 hyl
  go_wp2_with fail
  refine HC.out.mono ?_
  rintro e w2 ⟨rfl,n2,hw2⟩
  obtain⟨zs,hzs⟩:∃ zs,Lib.compact ys=zs:=⟨_,rfl⟩
  rw[hzs] at hw2 HGW ⊢
  have hzl:zs.length≤n:=by rw[← hzs,← HYL.out];exact compact_le ys
  have hp2:=T1.out.put (ys:=zs++List.replicate (n - zs.length) []) (by rw[List.length_append,List.length_replicate,HYL.out];omega) n2 #[]
  rw[Go.Sort.grow_empty,← hw2] at hp2
  obtain⟨t2,b2⟩:=hp2
  have T2:Hid (Txts w2 h zs):=t2.more
  have B2:Hid (But (fun i=>i=g∨i=h) W w2):=⟨b2.os.trans B1.out.os,b2.tape.trans B1.out.tape,b2.output.trans B1.out.output,Nat.le_trans B1.out.size b2.size,fun i hi hs=>(b2.block i (Nat.lt_of_lt_of_le hi B1.out.size) (fun e=>hs (.inr e))).trans (B1.out.block i hi (fun e=>hs (.inr e)))⟩
  have K2:Hid (Bk w2 g 25 (conCells { c with groups:=(zs.take 0).filter (fun x=>decide (x≠[])) } (.slice none 0 0) o)):=b2.bk (B1.out.bk HK.out HGH.out) HGH.out
  have O2:Hid (OwnT B w2 (.slice none 0 0) (sts ((zs.take 0).filter (fun x=>decide (x≠[]))))):=OwnT.nil _ _
  obtain⟨zn,hzn⟩:∃ z,zs.length=z:=⟨_,rfl⟩
  have HZN:=Lib.hid hzn
  have hgB:g < B:=by rw[← hB];exact HK.out.lt
  have hhB:h < B:=by rw[← hB];exact HT.out.lt
  have HHB:Hid (g < B∧h < B):=⟨hgB,hhB⟩
  rw[hzn] at hzl ⊢
  clear hw2 hzs t2 b2 hB hzn hgB hhB
  go_wp2_with fail
  go_loopw [12] (fun iv wr=>∃ (k:Nat) (gv:Value),iv=.int .i64 k∧k≤zn∧Hid (Bk wr g 25 (conCells { c with groups:=(zs.take k).filter (fun x=>decide (x≠[])) } gv o))∧Hid (OwnT B wr gv (sts ((zs.take k).filter (fun x=>decide (x≠[])))))∧Hid (But (fun i=>i=g∨i=h) W wr)∧Hid (Txts wr h zs)) (fun iv _=>zn - (intOf iv).toNat)
  case atStart=>exact⟨0,_,rfl,Nat.zero_le _,K2,O2,B2,T2⟩
  case round =>
    obtain⟨k,gv,rfl,hk,KG,OG,BG,TG⟩:=hrel
    by_cases hlt:k < zn
    · obtain⟨x,hx⟩:∃ x,zs[k]?=some x:=⟨_,List.getElem?_eq_getElem (by rw[HZN.out];exact hlt)⟩
      have c0:=TG.out.cell hx
      have eb:=emptyB (l:=x)
      have htk:=Lib.hid (filter_take (fun x=>decide (x≠[])) hx)
      obtain⟨X,hX⟩:∃ X,bts x=X:=⟨_,rfl⟩
      have HX:=Lib.hid hX
      rw[hX] at c0 eb
      have hfl:Hid ((sts ((zs.take k).filter (fun x=>decide (x≠[])))).length≤1000000):=by
        unfold Hid
        have h1:=List.length_filter_le (fun x:List UInt8=>decide (x≠[])) (zs.take k)
        have h2:(zs.take k).length≤k:=by rw[List.length_take];omega
        unfold sts
        rw[List.length_map]
        omega
      clear hx hX
      by_cases he:x=[]
      · rw[decide_eq_true he] at eb
        have e2:(zs.take (k+1)).filter (fun x=>decide (x≠[]))=(zs.take k).filter (fun x=>decide (x≠[])):=by rw[htk.out,he];simp
        have E2:=Lib.hid e2
        clear e2 he
        go_wp2_with fail
        go_roundw
        case rel=>exact⟨k+1,gv,by go_num,by omega,by rw[E2.out];exact KG,by rw[E2.out];exact OG,BG,TG⟩
        case measure=>simp[intOf];omega
      · rw[decide_eq_false he] at eb
        have e2:(zs.take (k+1)).filter (fun x=>decide (x≠[]))=(zs.take k).filter (fun x=>decide (x≠[]))++[x]:=by rw[htk.out,decide_eq_true he];rfl
        have E2:=Lib.hid e2
        obtain⟨GA,gcap,hgv⟩:=OG.out.slice
        obtain⟨gm,hgm⟩:∃ m,(sts ((zs.take k).filter (fun x=>decide (x≠[])))).length=m:=⟨_,rfl⟩
        rw[hgm] at hgv
        subst hgv
        have k9:wr.cell? ⟨g,9,none⟩=some (.slice GA gm gcap):=KG.out.cell 9
        have f9:wr.frozen? ⟨g,9,none⟩=false:=KG.out.free 9
        have ZB:Hid (B≤wr.heap.size):=by have:=BG.out.size;have:=HB.out;unfold Hid;omega
        have hl2:Hid ((sts ((zs.take k).filter (fun x=>decide (x≠[])))).length≤1000000000000):=by have:=hfl.out;unfold Hid;omega
        clear e2 he hgm
        go_wp2_with (at_builtin;refine push_str rfl _ _ rfl B (.slice GA gm gcap) _ X wr rfl OG.out rfl hl2.out ZB.out ?_)
        intro v5 w5 o5 b5
        have O5:=Lib.hid o5
        have k5:=KG.out.below b5 HHB.out.1
        have K5:=Lib.hid k5
        have T5:=Lib.hid (TG.out.below b5 HHB.out.2)
        have G5:Hid (But (fun i=>i=g∨i=h) W w5):=BG.out.on (by rw[HB.out];exact b5)
        have f5:w5.frozen? ⟨g,9,none⟩=false:=k5.free 9
        have c5:w5.cell? ⟨g,9,none⟩=some (.slice GA gm gcap):=k5.cell 9
        obtain⟨A5,m5,p5,rfl⟩:∃ A n cap,v5=.slice A n cap:=by obtain⟨A,cap,e⟩:=o5.slice;exact⟨A,_,cap,e⟩
        clear o5 b5 k5
        go_wp2_with fail
        go_roundw
        case rel =>
          refine⟨k+1,.slice A5 m5 p5,by go_num,by omega,?_,?_,?_,T5.out.set (fun e=>HGH.out e.symm) _⟩
          · have:=K5.out.put 9 (.slice A5 m5 p5)
            rw[con_groups] at this
            exact this
          · unfold Hid
            have h6:=O5.out.set (g:=g) (o:=9) (u:=.slice A5 m5 p5) HHB.out.1
            rw[E2.out,sts_append,show sts [x]=[X] from by rw[← HX.out];rfl]
            simpa using h6
          · exact G5.out.trans (But.of_grown (grown_set _) (.inl rfl))
        case measure=>simp[intOf];omega
    · have hke:zs.take k=zs:=List.take_of_length_le (by rw[HZN.out];omega)
      have K8:=KG.out
      have O8:=OG.out
      rw[hke,HGW.out] at K8 O8
      have K9:=Lib.hid K8
      have O9:=Lib.hid O8
      clear K8 O8 hke
      go_wp2_with fail
      go_ret
      exact⟨rfl,gv,K9.out,by rw[HB.out];exact O9.out,BG.out⟩
end Go.Proofs.YtfbdnaclkfmiaaaGreatDoor
end
section
namespace Go.Proofs.YtfbdnaclkfmiaaaGreatDoor
open Go.RowKit Vc Ct
theorem own_txts {B:Nat} {w:World} {v:Value} {xs:List (List UInt8)} (h:OwnT B w v (sts xs)) (hne:xs≠[]):∃ h cap,v=.slice (some ⟨h,0,none⟩) xs.length cap∧B≤h∧xs.length≤cap∧Txts w h xs:=by
  have hl:(sts xs).length=xs.length:=by unfold sts;rw[List.length_map]
  have h':w.ownsRow B 9 1 v (sts xs).length (strs (sts xs)):=h
  rcases h'.2 with ⟨rfl,h0⟩ | ⟨g,cap,cur,rfl,hg,hh,h1,h2,h3,h4⟩
  · rw[hl] at h0
    exact absurd (List.eq_nil_of_length_eq_zero h0) hne
  · refine⟨g,cap,by rw[hl],hg,by rw[hl] at h1;omega,cur,hh,fun j x hj=>?_⟩
    have hx:(sts xs)[j]?=some (bts x):=by unfold sts;rw[List.getElem?_map,hj];rfl
    have:=h'.cells (g:=g) rfl j _ (strs_get hx)
    rw[add_at,Nat.zero_add,(show Bk w g 9 cur from hh).cell] at this
    exact this
theorem Txts.own {w:World} {h:Nat} {xs:List (List UInt8)} (t:Txts w h xs) (cap:Nat):ReadT w.heap.size w (.slice (some ⟨h,0,none⟩) xs.length cap) (sts xs):=by
  refine ReadT.made (by unfold sts;rw[List.length_map]) t.lt (fun i b hi=>?_)
  unfold sts at hi
  rw[List.getElem?_map] at hi
  obtain⟨x,hx,rfl⟩:=Option.map_eq_some_iff.1 hi
  rw[Nat.zero_add]
  exact t.cell hx
def ReadE (W:World) (g i:Nat) (r:Nat × Con) (gv o:Value) (e:Ending) (W':World):Prop :=
  e=.returned (.int .i64 (r.1:Nat))∧(r.1=0→∃ gv',Bk W' g 25 (conCells r.2 gv' o)∧OwnT (g+1) W' gv' (sts r.2.groups)∧(i≠6→gv'=gv))∧But (·=g) W W'
def OkX (i:Nat) (xs:List (List UInt8)):Prop:=(i≠1→i≠6→xs.length=1)∧xs.length≤1000000∧∀ x∈xs,x.length≤1000000
def PutAs (W0:World) (g i:Nat) (P:Value) (c:Con) (gv o:Value):Prop:=∃ (F:FuncId) (cb:Array Value),P=.func (.func F) #[] cb∧(∀ args W,(callFunc F args).run Tryz.prog W=.ok (.enter F args) W) ∧
  ∀ (xs:List (List UInt8)) (W:World) (h cap:Nat),OkX i xs→Below W0.heap.size W0 W→W0.heap.size≤h→Txts W h xs→xs.length≤cap→Calls Tryz.prog F (#[.pointer (some ⟨g,0,none⟩),.slice (some ⟨h,0,none⟩) xs.length cap]++cb) W (ReadE W0 g i (putR i xs c) gv o)
theorem But.fresh {W0 W W':World} {g:Nat} (h0:Below W0.heap.size W0 W) (h:W.grownBy W' (some g)):But (·=g) W0 W' :=
  (But.new h0).trans (But.of_grown h rfl)
theorem OwnT.butg {g:Nat} {W W':World} {v:Value} {x:List ByteArray} (h:OwnT (g+1) W v x) (hb:But (·=g) W W'):OwnT (g+1) W' v x :=
  h.kept fun j hj=>hb.block j (h.low hj).2 (by have:=(h.low hj).1;omega)
theorem set_groups2 (n t:List UInt8) (c:Con):(setC n t c).groups=c.groups:=set_groups n t c
theorem OwnT.weakT {B B':Nat} {w:World} {v:Value} {x:List ByteArray} (h:OwnT B w v x) (hB:B'≤B):OwnT B' w v x :=
  ⟨h.1,h.2.imp id fun ⟨g,cap,cur,k1,k2,k3⟩=>⟨g,cap,cur,k1,Nat.le_trans hB k2,k3⟩⟩
theorem putAs_text {i:Nat} (hi:i < 9) (ht:isT i=true) {b:Nat→Nat} {W0:World} {g:Nat} {c:Con} {gv o:Value} (hk:Bk W0 g 25 (conCells c gv o)) (hg:OwnT (g+1) W0 gv (sts c.groups)) (hb:KindsAt b W0) :
    PutAs W0 g i (.func (.func 105) #[] #[.pointer (some ⟨b i,0,none⟩)]) c gv o:=by
  refine⟨_,_,rfl,Go.Proofs.enters_of Tryz.func105 (by kernel_rfl) rfl,fun xs W h cap hx hW hh htx hcap=>?_⟩
  have hne:i≠1∧i≠3∧i≠6:=by
    unfold isT at ht
    simp only[Bool.and_eq_true,bne_iff_ne] at ht
    exact⟨ht.1.1,ht.1.2,ht.2⟩
  have hl:=hx.1 hne.1 hne.2.2
  obtain⟨x,rfl⟩:∃ x,xs=[x]:=List.length_eq_one_iff.1 hl
  have e:putR i [x] c=(0,setC (kname i) x c):=by
    unfold putR
    rw[if_neg hne.1,if_neg hne.2.2,if_neg hne.2.1]
    rfl
  rw[e]
  refine(putText_any hi ht (b i) g c gv o ⟨h,0,none⟩ cap x W (hk.below hW hk.lt) ((hb i hi ht).below hW (hb i hi ht).lt) (htx.cell (j:=0) rfl)).mono ?_
  rintro e w' ⟨rfl,h2,h3⟩
  have hbut:=But.fresh hW h3
  exact⟨rfl,fun _=>⟨gv,h2,by rw[set_groups2];exact hg.butg hbut,fun _=>rfl⟩,hbut⟩
theorem putAs_names {W0:World} {g:Nat} {c:Con} {gv o:Value} (hk:Bk W0 g 25 (conCells c gv o)) (hg:OwnT (g+1) W0 gv (sts c.groups)):PutAs W0 g 1 (.func (.func 66) #[] #[]) c gv o:=by
  refine⟨_,_,rfl,Go.Proofs.enters_of Tryz.func66 (by kernel_rfl) rfl,fun xs W h cap hx hW hh htx hcap=>?_⟩
  have hgl:=hk.lt
  refine(putNames_any g h cap c gv o xs xs.length rfl hx.2.1 W (hk.below hW hk.lt) (fun j x hj=>htx.cell hj) (by omega)).mono ?_
  rintro e w' ⟨rfl,h2,h3⟩
  have hbut:=But.fresh hW h3
  have e1:putR 1 xs c=fiveC c xs:=rfl
  rw[e1]
  exact⟨rfl,fun h0=>⟨gv,h2 h0,by rw[five_groups];exact hg.butg hbut,fun _=>rfl⟩,hbut⟩
theorem putAs_jid {W0:World} (hO:Okw W0) {g:Nat} {c:Con} {gv o:Value} (hk:Bk W0 g 25 (conCells c gv o)) (hg:OwnT (g+1) W0 gv (sts c.groups)):PutAs W0 g 3 (.func (.func 69) #[] #[]) c gv o:=by
  refine⟨_,_,rfl,Go.Proofs.enters_of Tryz.func69 (by kernel_rfl) rfl,fun xs W h cap hx hW hh htx hcap=>?_⟩
  have hl:=hx.1 (by decide) (by decide)
  obtain⟨x,rfl⟩:∃ x,xs=[x]:=List.length_eq_one_iff.1 hl
  refine(putJid_any g h cap c gv o x W (hO.below hW) (hk.below hW hk.lt) (htx.cell (j:=0) rfl) (hx.2.2 x (by simp))).mono ?_
  rintro e w' ⟨rfl,h2,h3⟩
  have hbut:=But.fresh hW h3
  have e1:putR 3 [x] c=((Jd.bareL x).2,{ c with jid:=(Jd.bareL x).1 }):=rfl
  rw[e1]
  exact⟨rfl,fun h0=>⟨gv,h2 h0,hg.butg hbut,fun _=>rfl⟩,hbut⟩
theorem putAs_groups {W0:World} {g:Nat} {c:Con} {o:Value} (hk:Bk W0 g 25 (conCells c (.slice none 0 0) o)):PutAs W0 g 6 (.func (.func 73) #[] #[]) c (.slice none 0 0) o:=by
  refine⟨_,_,rfl,Go.Proofs.enters_of Tryz.func73 (by kernel_rfl) rfl,fun xs W h cap hx hW hh htx hcap=>?_⟩
  have hgl:=hk.lt
  refine(putGroups_any g h cap c o xs xs.length rfl hx.2.1 hcap W (hk.below hW hk.lt) htx).mono ?_
  rintro e w' ⟨rfl,gv',h2,h3,h4⟩
  have e1:putR 6 xs c=(0,{ c with groups:=groupsL xs }):=rfl
  rw[e1]
  have hws:=hW.size
  refine⟨rfl,fun _=>⟨gv',h2,h3.weakT (by omega),fun h=>absurd rfl h⟩,⟨h4.os.trans hW.os,h4.tape.trans hW.tape,h4.output.trans hW.output,Nat.le_trans hW.size h4.size,fun j hj hn=>?_⟩⟩
  refine(h4.block j (by omega) (fun e=>?_)).trans (hW.block j hj)
  rcases e with e | e
  · exact hn e
  · omega
theorem putAs_any {i:Nat} (hi:i < 9) {b:Nat→Nat} {W0:World} (hO:Okw W0) {g:Nat} {c:Con} {gv o:Value} (hk:Bk W0 g 25 (conCells c gv o)) (hg:OwnT (g+1) W0 gv (sts c.groups)) (hb:KindsAt b W0) (h6:i=6→gv=.slice none 0 0) :
    PutAs W0 g i (putV b i) c gv o:=by
  rcases kcases hi with rfl | rfl | rfl | rfl | rfl | rfl | rfl | rfl | rfl
  · exact putAs_text (i:=0) hi rfl hk hg hb
  · exact putAs_names hk hg
  · exact putAs_text (i:=2) hi rfl hk hg hb
  · exact putAs_jid hO hk hg
  · exact putAs_text (i:=4) hi rfl hk hg hb
  · exact putAs_text (i:=5) hi rfl hk hg hb
  · obtain rfl:=h6 rfl
    exact putAs_groups hk
  · exact putAs_text (i:=7) hi rfl hk hg hb
  · exact putAs_text (i:=8) hi rfl hk hg hb
end Go.Proofs.YtfbdnaclkfmiaaaGreatDoor
end
import Derived.Test.YtfbdnaclkfmiaaaGreatDoorB09
import Derived.Test.YtfbdnaclkfmiaaaGreatDoorB33
import Derived.Test.YtfbdnaclkfmiaaaGreatDoorB31
import Derived.IntWalk
import Derived.Deep.QuietTactic
import Derived.BigQuiet
import Derived.Test.YtfbdnaclkfmiaaaGreatDoorB32
import Derived.Test.YtfbdnaclkfmiaaaGreatDoorB29
section
namespace Go.Proofs.YtfbdnaclkfmiaaaGreatDoor
open Go.RowKit Tx
set_option maxHeartbeats 400000 in
theorem count_any (s:ByteArray) (w:World) (hT:Tabs w) (hs:s.size≤140737488355328) :
    Calls Tryz.prog 93 #[.string s] w fun e w'=>e=.returned (.int .i64 (runes s.data.toList).length)∧Below w.heap.size w w':=by
  have HW:=Lib.hid (walk_span s w hT hs)
  cases hch:ch s.data.toList with
  | none =>
    have HS:=Lib.hid (spanOf_none hch)
    rw[runes_none hch]
    clear hch
    go_enter Tryz.func93,Tryz.ntmps93
    go_wp2_with (go_at_call 120;refine HW.out.mono ?_;rintro e w1 ⟨rfl,hb⟩;rw[HS.out])
    go_ret
    exact⟨rfl,hb.alloc hb.size _⟩
  | some x =>
    have HS:=Lib.hid (spanOf_some hch)
    rw[runes_some hch]
    clear hch
    go_enter Tryz.func93,Tryz.ntmps93
    go_wp2_with (go_at_call 120;refine HW.out.mono ?_;rintro e w1 ⟨rfl,hb⟩;rw[HS.out])
    go_ret
    exact⟨rfl,hb.alloc hb.size _⟩
set_option maxHeartbeats 400000 in
theorem line_any (s:ByteArray) (most:Int) (w:World) (hT:Tabs w) (hs:s.size≤140737488355328) :
    Calls Tryz.prog 91 #[.string s,.int .i64 most] w fun e w'=>e=.returned (.bool (line s.data.toList most))∧Below w.heap.size w w':=by
  have HW:=Lib.hid (walk_span s w hT hs)
  cases hch:ch s.data.toList with
  | none =>
    have HS:=Lib.hid (spanOf_none hch)
    rw[line_none hch]
    clear hch
    go_enter Tryz.func91,Tryz.ntmps91
    go_wp2_with (go_at_call 120;refine HW.out.mono ?_;rintro e w1 ⟨rfl,hb⟩;rw[HS.out])
    go_ret
    exact⟨rfl,hb.alloc hb.size _⟩
  | some x =>
    have HS:=Lib.hid (spanOf_some hch)
    rw[line_some hch]
    clear hch
    obtain⟨a,ha⟩:∃ a,x.length=a:=⟨_,rfl⟩
    obtain⟨b,hb0⟩:∃ b,low x=b:=⟨_,rfl⟩
    rw[ha,hb0] at HS
    rw[ha,hb0]
    clear ha hb0
    by_cases h0:b=0
    · subst h0
      go_enter Tryz.func91,Tryz.ntmps91
      go_wp2_with (go_at_call 120;refine HW.out.mono ?_;rintro e w1 ⟨rfl,hb⟩;rw[HS.out])
      go_ret
      exact⟨rfl,hb.alloc hb.size _⟩
    · have g0:((b:Int)==0)=false:=by simpa using h0
      have g1:(b==0)=false:=by simpa using h0
      go_enter Tryz.func91,Tryz.ntmps91
      go_wp2_with (go_at_call 120;refine HW.out.mono ?_;rintro e w1 ⟨rfl,hb⟩;rw[HS.out])
      go_ret
      exact⟨by simp[g1],hb.alloc hb.size _⟩
end Go.Proofs.YtfbdnaclkfmiaaaGreatDoor
end
section
namespace Go.Proofs.YtfbdnaclkfmiaaaGreatDoor
open Go.RowKit Vc
def parN (l:List Par):Nat:=(l.map fun a=>5+a.1.length+a.2.length).sum
def costP (p:Pr):Nat:=5+p.1.length+p.2.1.length+p.2.2.2.length+parN p.2.2.1
def costC (c:List Pr):Nat:=(c.map costP).sum
theorem parN_nil:parN []=0:=rfl
theorem parN_cons (a:Par) (l:List Par):parN (a::l)=5+a.1.length+a.2.length+parN l:=by simp[parN]
theorem costC_nil:costC []=0:=rfl
theorem costC_cons (p:Pr) (c:List Pr):costC (p::c)=costP p+costC c:=by simp[costC]
theorem parN_app:∀ a b:List Par,parN (a++b)=parN a+parN b
  | [],b=>by rw[List.nil_append,parN_nil,Nat.zero_add]
  | x::a,b=>by rw[List.cons_append,parN_cons,parN_cons,parN_app a b];omega
theorem costC_app:∀ a b:List Pr,costC (a++b)=costC a+costC b
  | [],b=>by rw[List.nil_append,costC_nil,Nat.zero_add]
  | x::a,b=>by rw[List.cons_append,costC_cons,costC_cons,costC_app a b];omega
theorem parN_len:∀ l:List Par,5*l.length≤parN l
  | []=>by rw[parN_nil];exact Nat.le_refl _
  | a::l=>by have:=parN_len l;rw[parN_cons,List.length_cons];omega
theorem costC_len:∀ c:List Pr,5*c.length≤costC c
  | []=>by rw[costC_nil];exact Nat.le_refl _
  | p::c=>by have:=costC_len c;rw[costC_cons,List.length_cons];unfold costP;omega
theorem parN_take {l:List Par} {k:Nat} {a:Par} (h:l[k]?=some a):parN (l.take (k+1))=parN (l.take k)+(5+a.1.length+a.2.length):=by
  rw[List.take_add_one,h,parN_app]
  show _+parN [a]=_
  rw[parN_cons,parN_nil]
  omega
theorem costC_take {c:List Pr} {k:Nat} {p:Pr} (h:c[k]?=some p):costC (c.take (k+1))=costC (c.take k)+costP p:=by
  rw[List.take_add_one,h,costC_app]
  show _+costC [p]=_
  rw[costC_cons,costC_nil]
  omega
theorem parN_le (l:List Par) (k:Nat):parN (l.take k)≤parN l:=by
  conv=>rhs;rw[← List.take_append_drop k l]
  rw[parN_app]
  omega
theorem costC_le (c:List Pr) (k:Nat):costC (c.take k)≤costC c:=by
  conv=>rhs;rw[← List.take_append_drop k c]
  rw[costC_app]
  omega
theorem pvalT_len (v:List UInt8):(pvalT v).length≤v.length+2:=by
  unfold pvalT
  split
  · simp
  · omega
theorem parT_len (a:Par):(parT a).length≤a.1.length+a.2.length+4:=by
  have h2:=pvalT_len a.2
  unfold parT
  simp only[List.length_cons,List.length_append]
  omega
theorem parsT_len:∀ l:List Par,(l.flatMap parT).length≤parN l
  | []=>by simp[parN_nil]
  | a::l=>by
    have h1:=parsT_len l
    have h2:=parT_len a
    rw[List.flatMap_cons,parN_cons,List.length_append]
    omega
theorem groupT_len (g:List UInt8):(groupT g).length≤g.length+1:=by
  unfold groupT
  split
  · simp
  · simp
theorem line_len (p:Pr):(lineT p).length+3≤costP p:=by
  have h1:=parsT_len p.2.2.1
  have h2:=groupT_len p.1
  unfold lineT costP
  simp only[List.length_append,List.length_cons]
  omega
def costL (c:List Pr):Nat:=(c.map fun p=>(lineT p).length+3).sum
theorem costL_cons (p:Pr) (c:List Pr):costL (p::c)=(lineT p).length+3+costL c:=by simp[costL]
theorem costL_le:∀ c:List Pr,costL c≤costC c
  | []=>Nat.le_refl _
  | p::c=>by have h1:=costL_le c;have h2:=line_len p;rw[costL_cons,costC_cons];omega
theorem bulk_sts:∀ m:List (List UInt8),bulk (sts m)=(m.map fun x=>x.length+3).sum
  | []=>rfl
  | x::m=>by
    have:=bulk_sts m
    unfold bulk sts at this ⊢
    rw[List.map_cons,List.map_cons,List.sum_cons,List.map_cons,List.sum_cons,this]
    congr 1
theorem bulk_card (c:List Pr):bulk (sts (cardT c))=40+costL c:=by
  rw[bulk_sts]
  unfold cardT costL
  simp only[List.map_cons,List.map_append,List.sum_cons,List.sum_append,List.map_nil,List.sum_nil,List.map_map]
  show 14+(14+((List.map (fun p=>(lineT p).length+3) c).sum+(12+0)))=_
  omega
theorem bulkV_cons (c:List Pr) (l:List (List Pr)):bulkV (c::l)=40+costL c+bulkV l:=by
  unfold bulkV
  rw[List.flatMap_cons,sts_append,bulk_append,bulk_card]
theorem bulkV_small:∀ {l:List (List Pr)} {N:Nat},(∀ c∈l,costC c≤N)→bulkV l≤l.length*(40+N)
  | [],N,_=>Nat.zero_le _
  | c::l,N,h=>by
    have h1:=bulkV_small (l:=l) (N:=N) fun d hd=>h d (List.mem_cons_of_mem _ hd)
    have h2:=h c List.mem_cons_self
    have h3:=costL_le c
    rw[bulkV_cons,List.length_cons,Nat.succ_mul]
    omega
theorem costL_len:∀ c:List Pr,c.length≤costL c
  | []=>Nat.zero_le _
  | p::c=>by have:=costL_len c;rw[costL_cons,List.length_cons];omega
theorem costL_mem {c:List Pr} {p:Pr} (h:p∈c):(lineT p).length≤costL c:=by
  induction c with
  | nil=>cases h
  | cons q c ih =>
    rw[costL_cons]
    rcases List.mem_cons.1 h with rfl | h
    · omega
    · have:=ih h;omega
theorem bulkV_mem {l:List (List Pr)} {c:List Pr} (h:c∈l):costL c≤bulkV l:=by
  induction l with
  | nil=>cases h
  | cons q l ih =>
    rw[bulkV_cons]
    rcases List.mem_cons.1 h with rfl | h
    · omega
    · have:=ih h;omega
theorem bulkV_mild {l:List (List Pr)} (h:bulkV l < 1000000):∀ c∈l,Mild c∧c.length≤1000000000:=fun c hc=>by
  have h1:=bulkV_mem hc
  have h2:=costL_len c
  exact⟨fun p hp=>by have:=costL_mem hp;omega,by omega⟩
end Go.Proofs.YtfbdnaclkfmiaaaGreatDoor
end
section
namespace Go.Proofs.YtfbdnaclkfmiaaaGreatDoor
open Go.RowKit Vc
set_option maxHeartbeats 8000000 in
set_option maxRecDepth 100000 in
theorem small_any (v:Value) (c:List Pr) (w:World) (hR:ReadP w v c) (hcost:costC c≤1000000000) :
    Calls Tryz.prog 8 #[v] w fun e w'=>e=.returned (.bool (decide (costC c≤8000)))∧∃ m,w'=w.drewN m:=by
  obtain⟨A,cap,rfl,hc⟩:=hR
  obtain⟨n,hn⟩:∃ n,c.length=n:=⟨_,rfl⟩
  rw[hn] at hc ⊢
  have HC:=Lib.hid hc
  have HN:=Lib.hid hn
  have hnl:n≤1000000000:=by have:=costC_len c;omega
  have HCOST:=Lib.hid hcost
  clear hc hn hcost
  go_enter Tryz.func8,Tryz.ntmps8
  go_wp2_with fail
  go_loopw [3,4] (fun nv iv wr=>∃ (i:Nat) (z:Int) (m:Nat),nv=.int .i64 z∧iv=.int .i64 i∧i≤n∧Hid (z=((costC (c.take i):Nat):Int))∧wr=w.drewN m) (fun _ iv _=>n - (intOf iv).toNat)
  case atStart=>exact⟨0,0,0,rfl,rfl,Nat.zero_le _,by unfold Hid;rfl,rfl⟩
  case round =>
    obtain⟨i,z,m,rfl,rfl,hi,HZ,rfl⟩:=hrel
    have hz0:0≤z:=by rw[HZ.out];omega
    by_cases hlt:i < n
    · obtain⟨ad,rfl,hlb,hcell⟩:=HC.out (by omega)
      obtain⟨p,hp⟩:∃ p,c[i]?=some p:=⟨_,List.getElem?_eq_getElem (by rw[HN.out];exact hlt)⟩
      obtain⟨u,⟨c0,c1,c2,c3⟩,hu⟩:=hcell i p hp
      obtain⟨A2,cap2,rfl,hc2⟩:=hu
      have hct:=costC_take hp
      have hcl:=costC_le c (i+1)
      have hcp:costP p=5+p.1.length+p.2.1.length+p.2.2.2.length+parN p.2.2.1:=rfl
      have hcc:=HCOST.out
      have hpl:=parN_len p.2.2.1
      obtain⟨x0,e0⟩:∃ a,bts p.1=a:=⟨_,rfl⟩
      obtain⟨x1,e1⟩:∃ a,bts p.2.1=a:=⟨_,rfl⟩
      obtain⟨x3,e3⟩:∃ a,bts p.2.2.2=a:=⟨_,rfl⟩
      have E0:x0.size=p.1.length:=by rw[← e0];exact Lib.size_eq _
      have E1:x1.size=p.2.1.length:=by rw[← e1];exact Lib.size_eq _
      have E3:x3.size=p.2.2.2.length:=by rw[← e3];exact Lib.size_eq _
      rw[e0] at c0
      rw[e1] at c1
      rw[e3] at c3
      obtain⟨k2,hk2⟩:∃ k,p.2.2.1.length=k:=⟨_,rfl⟩
      rw[hk2] at c2 hc2
      have hzz:=HZ.out
      obtain⟨y0,hy0⟩:∃ y:Int,(x0.size:Int)=y:=⟨_,rfl⟩
      obtain⟨y1,hy1⟩:∃ y:Int,(x1.size:Int)=y:=⟨_,rfl⟩
      obtain⟨y3,hy3⟩:∃ y:Int,(x3.size:Int)=y:=⟨_,rfl⟩
      have HC2:=Lib.hid hc2
      have HK2:=Lib.hid hk2
      have HSUM:Hid (z+5+y0+y1+y3=((costC (c.take i)+5+p.1.length+p.2.1.length+p.2.2.2.length:Nat):Int)):=by unfold Hid;omega
      have hb0:0≤z+5+y0+y1+y3:=by omega
      have hb1:z+5+y0+y1+y3+(parN p.2.2.1:Nat)≤1000000000:=by omega
      have hk3:k2≤1000000000:=by omega
      have HNX:Hid (((costC (c.take (i+1)):Nat):Int)=z+5+y0+y1+y3+((parN p.2.2.1:Nat):Int)):=by unfold Hid;omega
      have w1:IntKind.i64.wrap (z+5)=z+5:=IntWalk.i64_in _ (by omega)
      have w2:IntKind.i64.wrap (z+5+y0)=z+5+y0:=IntWalk.i64_in _ (by omega)
      have w3:IntKind.i64.wrap (z+5+y0+y1)=z+5+y0+y1:=IntWalk.i64_in _ (by omega)
      have w4:IntKind.i64.wrap (z+5+y0+y1+y3)=z+5+y0+y1+y3:=IntWalk.i64_in _ (by omega)
      have hltI:(i:Int) < (n:Int):=by omega
      clear hct hcl hcp hcc hpl e0 e1 e3 E0 E1 E3 hzz hc2 hk2 hcell hp HZ
      go_wp2_with fail
      go_quiet (fail)
      clear w1 w2 w3 w4
      go_wp2_with fail
      obtain⟨B0,hB0⟩:∃ B0,z+5+y0+y1+y3=B0:=⟨_,rfl⟩
      rw[hB0] at hb0 hb1 HNX ⊢
      clear hB0 HSUM c0 c1 c3 hy0 hy1 hy3
      go_loopw [3,5] (fun nv kv wr2=>∃ (k:Nat) (z2:Int) (m2:Nat),nv=.int .i64 z2∧kv=.int .i64 k∧k≤k2∧Hid (z2=B0+((parN (p.2.2.1.take k):Nat):Int))∧wr2=w.drewN m2) (fun _ kv _=>k2 - (intOf kv).toNat)
      case atStart=>exact⟨0,B0,_,rfl,rfl,Nat.zero_le _,by unfold Hid;rw[List.take_zero,parN_nil];omega,by first | exact World.drewN_drewN _ _ _ | rfl⟩
      case round =>
        obtain⟨k,z2,m2,rfl,rfl,hk,HZ2,rfl⟩:=hrel
        have hzz:=HZ2.out
        have hple:=parN_le p.2.2.1 k
        have hz20:0≤z2:=by omega
        by_cases hlk:k < k2
        · obtain⟨ad2,rfl,hlb2,hcell2⟩:=HC2.out (by omega)
          obtain⟨a,ha⟩:∃ a,p.2.2.1[k]?=some a:=⟨_,List.getElem?_eq_getElem (by rw[HK2.out];exact hlk)⟩
          obtain⟨b0,b1⟩:=hcell2 k a ha
          have hct:=parN_take ha
          have hcl:=parN_le p.2.2.1 (k+1)
          obtain⟨n1,e1⟩:∃ a',bts a.1=a':=⟨_,rfl⟩
          obtain⟨n2,e2⟩:∃ a',bts a.2=a':=⟨_,rfl⟩
          have E1:n1.size=a.1.length:=by rw[← e1];exact Lib.size_eq _
          have E2:n2.size=a.2.length:=by rw[← e2];exact Lib.size_eq _
          rw[e1] at b0
          rw[e2] at b1
          obtain⟨q1,hq1⟩:∃ y:Int,(n1.size:Int)=y:=⟨_,rfl⟩
          obtain⟨q2,hq2⟩:∃ y:Int,(n2.size:Int)=y:=⟨_,rfl⟩
          have HX:Hid (z2+5+q1+q2=B0+((parN (p.2.2.1.take (k+1)):Nat):Int)):=by unfold Hid;omega
          have w1:IntKind.i64.wrap (z2+5)=z2+5:=IntWalk.i64_in _ (by omega)
          have w2:IntKind.i64.wrap (z2+5+q1)=z2+5+q1:=IntWalk.i64_in _ (by omega)
          have w3:IntKind.i64.wrap (z2+5+q1+q2)=z2+5+q1+q2:=IntWalk.i64_in _ (by omega)
          have hlkI:(k:Int) < (k2:Int):=by omega
          clear hct hcl e1 e2 E1 E2 hzz hple hcell2 ha HZ2 hz20
          go_wp2_with fail
          go_quiet (fail)
          clear w1 w2 w3
          go_wp2_with fail
          go_roundw
          case rel=>exact⟨k+1,_,_,rfl,by go_num,by omega,HX,by first | exact World.drewN_drewN _ _ _ | rfl⟩
          case measure=>simp[intOf];omega
        · have HX:Hid (z2=((costC (c.take (i+1)):Nat):Int)):=by
            have:=HNX.out
            rw[List.take_of_length_le (by rw[HK2.out];omega)] at hzz
            unfold Hid
            omega
          clear hzz hple HZ2
          go_wp2_with fail
          go_roundw
          case rel=>exact⟨i+1,z2,m2,rfl,by go_num,by omega,HX,rfl⟩
          case measure=>simp[intOf];omega
    · have hzz:=HZ.out
      rw[List.take_of_length_le (by rw[HN.out];omega)] at hzz
      have HE:Hid (decide (z≤8000)=decide (costC c≤8000)):=by
        unfold Hid
        rw[hzz,decide_eq_decide]
        omega
      clear hzz HZ
      go_wp2_with fail
      go_ret
      exact⟨by rw[← HE.out];rfl,_,rfl⟩
end Go.Proofs.YtfbdnaclkfmiaaaGreatDoor
end
section
namespace Go.Proofs.YtfbdnaclkfmiaaaGreatDoor
open Go.RowKit Vc Ct
theorem bytes_eqb2 (a b:List UInt8):((bts a).toList==(bts b).toList)=decide (a=b):=by
  rw[ByteArray.toList_mk,ByteArray.toList_mk]
  by_cases h:a=b
  · simp[h]
  · simp[h]
theorem OkwV.jid {w:World} (h:OkwV w):Okw w:=⟨h.1,h.2.1⟩
set_option maxHeartbeats 400000 in
theorem noLine_any (s:ByteArray) (w:World) (hT:Tabs w) (hs:s.size≤140737488355328) :
    Calls Tryz.prog 42 #[.string s] w fun e w'=>e=.returned (.bool (!Tx.line s.data.toList 100))∧Below w.heap.size w w':=by
  have HL:=Lib.hid (line_any s 100 w hT hs)
  obtain⟨b,hb⟩:∃ b,Tx.line s.data.toList 100=b:=⟨_,rfl⟩
  rw[hb] at HL ⊢
  clear hb hT hs
  go_enter Tryz.func42,Tryz.ntmps42
  go_wp2_with fail
  refine HL.out.mono ?_
  rintro e w1 ⟨rfl,b1⟩
  go_wp2_with fail
  go_ret
  exact⟨rfl,b1⟩
set_option maxHeartbeats 1000000 in
theorem nIndex_any (g cap n:Nat) (xs:List (List UInt8)) (hn:xs.length=n) (hl:n≤1000000) (hs:∀ x∈xs,x.length≤1000000) (w:World) (hT:Tabs w) (ht:Txts w g xs) :
    Calls Tryz.prog 90 #[.slice (some ⟨g,0,none⟩) n cap,.func (.func 42) #[] #[]] w fun e w'=>(∃ z:Int,e=.returned (.int .i64 z)∧decide (z≥0)=xs.any (fun x=>!Tx.line x 100))∧Below w.heap.size w w':=by
  have HTX:=Lib.hid ht
  have HN:=Lib.hid hn
  have HP:=Lib.hid (fun k x (W:World) (hx:xs[k]?=some x) (hW:Below w.heap.size w W)=>noLine_any (bts x) W (hT.below hW) (by rw[Lib.size_eq];have:=hs x (List.mem_of_getElem? hx);show x.length≤_;omega))
  have HH:Hid (∀ k x,xs[k]?=some x→(!Tx.line x 100)=true→xs.any (fun x=>!Tx.line x 100)=true):=fun k x hx h=>List.any_eq_true.2 ⟨x,List.mem_of_getElem? hx,h⟩
  have HM:Hid ((∀ k x,xs[k]?=some x→(!Tx.line x 100)=false)→xs.any (fun x=>!Tx.line x 100)=false):=fun h=>List.any_eq_false.2 fun x hx=>by
    obtain⟨k,hk,rfl⟩:=List.getElem_of_mem hx
    rw[h k _ (List.getElem?_eq_getElem hk)]
    decide
  obtain⟨r,hr⟩:∃ r,xs.any (fun x=>!Tx.line x 100)=r:=⟨_,rfl⟩
  rw[hr] at HH HM ⊢
  have HT0:=Lib.hid hT
  clear hn ht hT hs hr
  go_enter Tryz.func90,Tryz.ntmps90
  go_wp2_with fail
  go_loopw [8] (fun i wr=>∃ k:Nat,k≤n∧i=.int .i64 k∧Hid (Below w.heap.size w wr)∧Hid (∀ j x,j < k→xs[j]?=some x→(!Tx.line x 100)=false)) (fun i _=>n - (intOf i).toNat)
  case atStart=>exact⟨0,Nat.zero_le _,rfl,Below.refl _ _,fun j x h=>absurd h (Nat.not_lt_zero _)⟩
  case round =>
    obtain⟨k,hk,rfl,BW,hno⟩:=hrel
    by_cases hlt:k < n
    · obtain⟨x,hx⟩:∃ x,xs[k]?=some x:=⟨_,List.getElem?_eq_getElem (by rw[HN.out];exact hlt)⟩
      have c0:=(HTX.out.below BW.out HTX.out.lt).cell hx
      have hp1:=HP.out k x wr hx BW.out
      obtain⟨b,hb⟩:∃ b,(!Tx.line x 100)=b:=⟨_,rfl⟩
      have hb1:(!Tx.line (bts x).data.toList 100)=b:=hb
      rw[hb1] at hp1
      obtain⟨X,hX⟩:∃ X,bts x=X:=⟨_,rfl⟩
      rw[hX] at c0 hp1
      have HP1:=Lib.hid hp1
      have HB:=Lib.hid hb
      have HX:=Lib.hid hx
      clear hb hb1 hx hX hp1
      go_wp2_with fail
      refine HP1.out.mono ?_
      rintro e w2 ⟨rfl,b2⟩
      have B2:Hid (Below w.heap.size w w2):=BW.out.trans (b2.mono BW.out.size)
      clear b2
      cases b with
      | true =>
        have hf:=Lib.hid (HH.out k x HX.out HB.out)
        go_wp2_with fail
        go_ret
        exact⟨⟨_,rfl,by rw[hf.out];simp⟩,B2.out⟩
      | false =>
        have hno2:Hid (∀ j y,j < k+1→xs[j]?=some y→(!Tx.line y 100)=false):=Lib.hid (fun j y hj hy=>by
          rcases Nat.lt_or_ge j k with h | h
          · exact hno.out j y h hy
          · obtain rfl:j=k:=by omega
            rw[HX.out] at hy
            obtain rfl:=Option.some.inj hy
            exact HB.out)
        go_wp2_with fail
        go_roundw
        case rel=>exact⟨k+1,by omega,by go_num,B2,hno2⟩
        case measure=>simp[intOf];omega
    · have hf:=Lib.hid (HM.out (fun j x hx=>hno.out j x (by have:=(List.getElem?_eq_some_iff.1 hx).1;have:=HN.out;omega) hx))
      go_wp2_with fail
      go_ret
      exact⟨⟨_,rfl,by rw[hf.out];simp⟩,BW.out⟩
set_option maxHeartbeats 400000 in
theorem nContains_any (g cap n:Nat) (xs:List (List UInt8)) (hn:xs.length=n) (hl:n≤1000000) (hs:∀ x∈xs,x.length≤1000000) (w:World) (hT:Tabs w) (ht:Txts w g xs) :
    Calls Tryz.prog 41 #[.slice (some ⟨g,0,none⟩) n cap,.func (.func 42) #[] #[]] w fun e w'=>e=.returned (.bool (xs.any (fun x=>!Tx.line x 100)))∧Below w.heap.size w w':=by
  have HI:=Lib.hid (nIndex_any g cap n xs hn hl hs w hT ht)
  obtain⟨r,hr⟩:∃ r,xs.any (fun x=>!Tx.line x 100)=r:=⟨_,rfl⟩
  rw[hr] at HI ⊢
  clear hs hr hn ht hT
  go_enter Tryz.func41,Tryz.ntmps41
  go_wp2_with fail
  refine HI.out.mono ?_
  rintro e w1 ⟨⟨z,rfl,hz⟩,b1⟩
  go_wp2_with fail
  go_ret
  exact⟨rfl,b1⟩
theorem index_byte_all (s:List UInt8) (c:UInt8):decide (0≤Lib.indexByte s c)=!s.all (fun b=>b != c):=by
  induction s with
  | nil=>rfl
  | cons b l ih =>
    unfold Lib.indexByte
    by_cases h:b=c
    · subst h
      simp
    · have h1:(b==c)=false:=by simpa using h
      have hg:=Lib.indexByte_ge l c
      rw[h1,List.all_cons]
      have h2:(b != c)=true:=by simpa using h
      rw[h2,Bool.true_and,← ih]
      by_cases h3:Lib.indexByte l c=-1
      · simp[h3]
      · have h4:(Lib.indexByte l c==-1)=false:=by simpa using h3
        simp only[h4]
        have:(0≤Lib.indexByte l c+1)↔(0≤Lib.indexByte l c):=by omega
        simp[this]
set_option maxHeartbeats 1000000 in
theorem note_any (s:ByteArray) (w:World) (hT:Tabs w) (hs:s.size≤1000000) :
    Calls Tryz.prog 43 #[.string s] w fun e w'=>e=.returned (.bool (noteB s.data.toList))∧Below w.heap.size w w':=by
  have HV:=Lib.hid (valid_any s w hT (by omega))
  have HC:=Lib.hid (fun W (h:Below w.heap.size w W)=>count_any s W (hT.below h) (by omega))
  have HK:=Lib.hid (fun W=>Tryz.strings_Contains_one s 13 W)
  rw[index_byte_all] at HK
  have hnb:Hid (noteB s.data.toList=(Tx.valid s.data.toList&&decide ((Tx.runes s.data.toList).length≤500)&&s.data.toList.all (fun b=>b != 13))):=rfl
  obtain⟨v,hv⟩:∃ v,Tx.valid s.data.toList=v:=⟨_,rfl⟩
  obtain⟨m,hm⟩:∃ m,(Tx.runes s.data.toList).length=m:=⟨_,rfl⟩
  obtain⟨a,ha⟩:∃ a,s.data.toList.all (fun b=>b != 13)=a:=⟨_,rfl⟩
  obtain⟨r,hr⟩:∃ r,noteB s.data.toList=r:=⟨_,rfl⟩
  rw[hv,hm,ha,hr] at hnb
  rw[hv] at HV
  rw[hm] at HC
  rw[ha] at HK
  rw[hr]
  clear hv hm ha hr hT hs
  cases v with
  | false =>
    go_enter Tryz.func43,Tryz.ntmps43
    go_wp2_with fail
    refine HV.out.mono ?_
    rintro e w1 ⟨rfl,b1⟩
    go_wp2_with fail
    go_ret
    exact⟨by rw[hnb.out];rfl,b1⟩
  | true =>
    by_cases h5:m≤500
    · have hz:decide (((m:Nat):Int)≤500)=true:=by simp;omega
      have hnb2:Hid (r=a):=by unfold Hid;rw[hnb.out,decide_eq_true h5];simp
      go_enter Tryz.func43,Tryz.ntmps43
      go_wp2_with fail
      refine HV.out.mono ?_
      rintro e w1 ⟨rfl,b1⟩
      have B1:=Lib.hid b1
      clear b1
      go_wp2_with fail
      refine(HC.out w1 B1.out).mono ?_
      rintro e w2 ⟨rfl,b2⟩
      have B2:=Lib.hid (B1.out.trans (b2.mono B1.out.size))
      clear b2
      go_wp2_with fail
      refine(HK.out w2).mono ?_
      rintro e w3 ⟨rfl,rfl⟩
      go_wp2_with fail
      go_ret
      exact⟨by rw[hnb2.out];simp,B2.out⟩
    · have hz:decide (((m:Nat):Int)≤500)=false:=by simp;omega
      have hnb2:Hid (r=false):=by unfold Hid;rw[hnb.out,decide_eq_false h5];rfl
      have h5b:¬ ((m:Nat):Int)≤500:=by omega
      go_enter Tryz.func43,Tryz.ntmps43
      go_wp2_with fail
      refine HV.out.mono ?_
      rintro e w1 ⟨rfl,b1⟩
      have B1:=Lib.hid b1
      clear b1
      go_wp2_with fail
      refine(HC.out w1 B1.out).mono ?_
      rintro e w2 ⟨rfl,b2⟩
      have B2:=Lib.hid (B1.out.trans (b2.mono B1.out.size))
      clear b2
      go_wp2_with fail
      go_ret
      exact⟨by rw[hnb2.out];rfl,B2.out⟩
end Go.Proofs.YtfbdnaclkfmiaaaGreatDoor
end
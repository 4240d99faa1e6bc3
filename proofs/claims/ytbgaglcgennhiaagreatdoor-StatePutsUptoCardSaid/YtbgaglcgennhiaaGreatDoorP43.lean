import Derived.Test.YtbgaglcgennhiaaGreatDoorP42
import Derived.Test.YtbgaglcgennhiaaGreatDoorP07
namespace Go.Proofs.YtbgaglcgennhiaaGreatDoor
open Go.RowKit Go.Sort Sy Tx Ct
def iZ (i:Nat):List UInt8:=if i=0 then [104] else if i=1 then [120,46,121] else [122]
def dT (i:Nat):List UInt8:=if i=0 then [97] else if i=1 then [98] else [99]
structure sO (i:Nat) (h:aK):Prop where
 name:h.name=iZ i
 len:h.users.length≤3
 near:∀ k u,h.users[k]?=some u→es (dT k) u
structure jz (l:List aK):Prop where
 len:l.length≤3
 each:∀ i h,l[i]?=some h→sO i h
structure wF (u:aC):Prop where
 pw:u.pw.length≤1000000
 items:u.items.length≤1000000
 eachI:∀ p∈u.items,wR p.1
 pend:u.pend.length≤1000000
 eachP:∀ t∈u.pend,t.length≤1000000
def OwnHU (B:Nat) (w:World) (h:aK):Prop:=OwnV af 4 28 B w (sl h.uv) h.users∧∀ u∈h.users,OwnU B w u
theorem OwnHU.below {B:Nat} {w w':World} {h:aK} (hh:OwnHU B w h) (hb:Below w.heap.size w w'):OwnHU B w' h:=⟨hh.1.below hb,fun u hu=>(hh.2 u hu).below hb⟩
theorem OwnHU.far_row {B B2 k n:Nat} {w w':World} {h:aK} {v2:Value} {t:TypeId} {xs:List Value} (hh:OwnHU B w h) (h2:w.ownsRow B2 t k v2 n xs) (h3:t≠28) (h4:t≠53) (h5:t≠9) (f:∀ q,q < w.heap.size→Option.some q≠v2.ownBlock→w'.heap[q]?=w.heap[q]?):OwnHU B w' h :=
 ⟨hh.1.far_row h2 h3 f,fun u hu=>(hh.2 u hu).far_row h2 h4 h5 f⟩
theorem OwnHU.butT {B q:Nat} {w w':World} {h:aK} {t:TypeId} {cs:Array Value} (hh:OwnHU B w h) (hb:But (·=q) w w') (hk:Bk w q t cs) (h1:t≠28) (h2:t≠53) (h3:t≠9):OwnHU B w' h :=
 ⟨hh.1.butT hb hk h1,fun u hu=>(hh.2 u hu).butT hb hk h2 h3⟩
theorem iH {W W':World} {B k n:Nat} {t t':TypeId} {v:Value} {xs:List Value} {g:Nat} {cs:Array Value} (h:W.ownsRow B t k v n xs) (hb:Bk W g t' cs) (hne:t'≠t) (f:∀ q,q < W.heap.size→some q≠v.ownBlock→W'.heap[q]?=W.heap[q]?):Bk W' g t' cs:=by
 have h1:=f g hb.lt (fun e=>by
  obtain⟨cs2,hc⟩:=fz h e.symm
  exact hne (eZ hb hc))
 unfold Bk at hb ⊢;rw[h1];exact hb
theorem sq {W:World} {T:Nat} (h:Bk W T 9 #[.string ⟨#[104]⟩,.string ⟨#[120,46,121]⟩,.string ⟨#[122]⟩]) {i:Nat} (hi:i < 3):W.cell? ⟨T,i,none⟩=some (.string (aa (iZ i))):=by
 match i,hi with
 | 0,_=>exact h.cell 0
 | 1,_=>exact h.cell 1
 | 2,_=>exact h.cell 2
theorem sC {W:World} {T:Nat} (h:Bk W T 9 #[.string ⟨#[97]⟩,.string ⟨#[98]⟩,.string ⟨#[99]⟩]) {i:Nat} (hi:i < 3):W.cell? ⟨T,i,none⟩=some (.string (aa (dT i))):=by
 match i,hi with
 | 0,_=>exact h.cell 0
 | 1,_=>exact h.cell 1
 | 2,_=>exact h.cell 2
theorem qI {i:Nat} {l:List aK} {h:aK} (hl:l.length=i) (hi:i < 3) (hm:jz l) (hh:sO i h):jz (l++[h]):=by
 refine⟨by rw[List.length_append,hl];simp;omega,fun j g hg=>?_⟩
 rw[List.getElem?_append] at hg
 split at hg
 · exact hm.each j g hg
 · next hn =>
   have hj:j=i:=by
    have:=(List.getElem?_eq_some_iff.1 hg).1
    simp at this;omega
   subst hj;rw[hl,Nat.sub_self] at hg;obtain rfl:h=g:=by simpa using hg
   exact hh
theorem rx {k:Nat} {us:List aC} {u:aC} (hl:us.length=k) (hm:∀ j v,us[j]?=some v→es (dT j) v) (hu:es (dT k) u):∀ j v,(us++[u])[j]?=some v→es (dT j) v:=by
 intro j v hv;rw[List.getElem?_append] at hv
 split at hv
 · exact hm j v hv
 · have hj:j=k:=by
    have:=(List.getElem?_eq_some_iff.1 hv).1
    simp at this;omega
   subst hj;rw[hl,Nat.sub_self] at hv;obtain rfl:u=v:=by simpa using hv
   exact hu
set_option linter.unusedSimpArgs false in
set_option maxHeartbeats 16000000 in
set_option maxRecDepth 100000 in
theorem pH (v:Value) (hs:List aK) (w:World) (hR:ReadH w v hs) (hl:hs.length≤1000000) (hs2:∀ h∈hs,h.users.length≤1000000∧∀ u∈h.users,wF u) :
 Calls Tryz.prog 27 #[.agg #[v]] w fun e w'=>(∃ v' l,e=.returned (.agg #[v'])∧OwnV aA 2 47 w.heap.size w' v' l∧(∀ h∈l,OwnHU w.heap.size w' h)∧jz l)∧Below w.heap.size w w':=by
 obtain⟨A,cap,rfl,hA⟩:=hR.1.at
 have HU:=Lib.hid hR.2;have HSM:=Lib.hid hs2
 obtain⟨n,hn⟩:∃ n,hs.length=n:=⟨_,rfl⟩
 have HN:=Lib.hid hn;rw[hn] at hA hl ⊢;have HA:=Lib.hid hA;have HPUS:Hid (∀ (u:aC) (nm:List UInt8) (W:World),InU W u→wF u→Calls Tryz.prog 54 #[.agg (af u).toArray,.string (aa nm)] W fun e w'=>(∃ u,e=.returned (.agg (af u).toArray)∧OwnU W.heap.size w' u∧es nm u)∧Below W.heap.size W w'):=fun u nm W h1 h2=>re u nm W h1 h2.pw h2.items h2.eachI h2.pend h2.eachP
 obtain⟨G,hG⟩:∃ G,w.heap.size=G:=⟨_,rfl⟩
 obtain⟨W1,hW1⟩:∃ W1,w.alloc (.cells #[.slice A n cap] 24)=W1:=⟨_,rfl⟩
 obtain⟨R,hR2⟩:∃ R,W1.heap.size=R:=⟨_,rfl⟩
 obtain⟨W2,hW2⟩:∃ W2,W1.alloc (.cells #[.slice none 0 0] 24)=W2:=⟨_,rfl⟩
 obtain⟨O,hO⟩:∃ R,W2.heap.size=R:=⟨_,rfl⟩
 obtain⟨W3,hW3⟩:∃ W2x,W2.alloc (.cells #[.slice none 0 0] 24)=W2x:=⟨_,rfl⟩
 obtain⟨T,hT⟩:∃ R,W3.heap.size=R:=⟨_,rfl⟩
 obtain⟨W4,hW4⟩:∃ W2x,W3.alloc (.cells #[.string ⟨#[104]⟩,.string ⟨#[120,46,121]⟩,.string ⟨#[122]⟩] 9)=W2x:=⟨_,rfl⟩
 have b1:Below w.heap.size w W1:=by rw[← hW1];exact(Below.refl _ _).alloc (Nat.le_refl _) _
 have b2:Below W1.heap.size W1 W2:=by rw[← hW2];exact(Below.refl _ _).alloc (Nat.le_refl _) _
 have b3:Below W2.heap.size W2 W3:=by rw[← hW3];exact(Below.refl _ _).alloc (Nat.le_refl _) _
 have b4:Below W3.heap.size W3 W4:=by rw[← hW4];exact(Below.refl _ _).alloc (Nat.le_refl _) _
 have k1:Bk W1 G 24 #[.slice A n cap]:=by rw[← hW1,← hG];exact Bk.new _ _ _
 have k2:Bk W2 R 24 #[.slice none 0 0]:=by rw[← hW2,← hR2];exact Bk.new _ _ _
 have k3:Bk W3 O 24 #[.slice none 0 0]:=by rw[← hW3,← hO];exact Bk.new _ _ _
 have k4:Bk W4 T 9 #[.string ⟨#[104]⟩,.string ⟨#[120,46,121]⟩,.string ⟨#[122]⟩]:=by rw[← hW4,← hT];exact Bk.new _ _ _
 have BW0:Hid (Below w.heap.size w W4):=b1.trans ((b2.trans ((b3.trans (b4.mono b3.size)).mono b2.size)).mono b1.size);have KG0:=Lib.hid (((k1.below b2 k1.lt).below b3 (k1.below b2 k1.lt).lt).below b4 ((k1.below b2 k1.lt).below b3 (k1.below b2 k1.lt).lt).lt);have KR0:=Lib.hid ((k2.below b3 k2.lt).below b4 (k2.below b3 k2.lt).lt);have KO0:=Lib.hid (k3.below b4 k3.lt);have KT0:=Lib.hid k4;have HNG:Hid (G≠O):=by have:=k1.lt;have:=b2.size;unfold Hid;omega
 have HNR:Hid (R≠O):=by have:=k2.lt;unfold Hid;omega
 have HBR:Hid (w.heap.size≤R):=by have:=b1.size;unfold Hid;omega
 have HBO:Hid (w.heap.size≤O):=by have:=b1.size;have:=b2.size;unfold Hid;omega
 have HNO:Hid (OwnV aA 2 47 w.heap.size W4 (.slice none 0 0) ([]:List aK)):=OwnV.nil;have HNA:Hid (∀ h∈([]:List aK),OwnHU w.heap.size W4 h):=fun h hh=>by cases hh
 have HNM:Hid (jz []):=⟨Nat.zero_le _,fun i h hh=>by simp at hh⟩;have HLN:Hid (([]:List aK).length=0):=rfl;clear hR hA hn hs2 b1 b2 b3 b4 k1 k2 k3 k4;go_enter Tryz.func27,Tryz.ntmps27
 go_upto_region 1 with fail
 (try rw[hW1]);(try rw[hR2]);(try rw[hG]);(try rw[hW2]);clear hW1 hR2 hG hW2
 go_upto_region 2 with fail
 (try rw[hW3]);(try rw[hO]);clear hW3 hO
 go_upto_region 3 with fail
 (try rw[hW4]);(try rw[hT]);clear hW4 hT
 go_wp2_with fail
 go_loopw [5,6,7] (fun iv hv kv wr=>∃ (i:Nat) (u6 u7:Value) (l:List aK) (OA:Option Addr) (oc:Nat),iv=.int .i64 i∧hv=u6∧kv=u7∧i≤n∧i≤3∧Hid (l.length=i)∧Hid (Bk wr G 24 #[.slice A n cap])∧Hid (Bk wr R 24 #[.slice none 0 0])∧Hid (Bk wr O 24 #[.slice OA i oc])∧Hid (Bk wr T 9 #[.string ⟨#[104]⟩,.string ⟨#[120,46,121]⟩,.string ⟨#[122]⟩])∧Hid (OwnV aA 2 47 w.heap.size wr (.slice OA i oc) l)∧Hid (∀ h∈l,OwnHU w.heap.size wr h)∧Hid (jz l)∧Hid (Below w.heap.size w wr)) (fun iv _ _ _=>3 - (intOf iv).toNat)
 case atStart=>exact⟨0,_,_,[],none,0,rfl,rfl,rfl,Nat.zero_le _,by omega,HLN,KG0,KR0,KO0,KT0,HNO,HNA,HNM,BW0⟩
 case round =>
  clear HLN KG0 KR0 KO0 KT0 HNO HNA HNM BW0
  obtain⟨i,u6,u7,l,OA,oc,rfl,h6,h7,hi,hi3,LL,KG,KR,KO,KT,OWN,ALL,MS,BW⟩:=hrel
  have h62:=h6.symm;have h72:=h7.symm;subst h62 h72;clear h6 h7;generalize hwo:wr=wo at *;clear hwo;have g0:=KG.out.cell 0;have BWR:Hid (w.heap.size≤wo.heap.size):=BW.out.size
  go_upto_region 4 with fail
  go_cut [17] from 9 to 17 (fun s wx=>s=.bool (decide (i < n)&&decide (i < 3))∧wx=wo)
  case first =>
   by_cases hlt:i < n
   · have hltd:decide (i < n)=true:=decide_eq_true hlt
     by_cases h4:i < 3
     · have h4d:decide (i < 3)=true:=decide_eq_true h4
       have h4i:decide ((i:Int) < 3)=true:=decide_eq_true (by omega)
       go_wp2_with fail
       go_meet
       exact⟨by rw[hltd,h4d];first | rfl | (rw[h4i];rfl),rfl⟩
     · have h4d:decide (i < 3)=false:=decide_eq_false h4
       have h4i:decide ((i:Int) < 3)=false:=decide_eq_false (by omega)
       go_wp2_with fail
       go_meet
       exact⟨by rw[hltd,h4d];first | (simp;done) | (simp;omega),rfl⟩
   · have hltd:decide (i < n)=false:=decide_eq_false hlt
     go_wp2_with fail
     go_meet
     exact⟨by rw[hltd];rfl,rfl⟩
  case rest =>
  obtain⟨hsl9,hwc⟩:=hcut
  have hwc2:=hwc.symm;subst hwc2;clear hwc
  obtain⟨cb,hcb⟩:∃ b,(decide (i < n)&&decide (i < 3))=b:=⟨_,rfl⟩
  rw[hcb] at hsl9;subst hsl9;cases cb with
  | false =>
    clear hcb g0;have o0:=KO.out.cell 0;have r0:wo.cell? ⟨R,0,none⟩=some (.slice none 0 0):=KR.out.cell 0;have r1:=KR.out.free 0
    obtain⟨w5,hw5⟩:∃ z,wo.setCell ⟨R,0,none⟩ (.slice OA i oc)=z:=⟨_,rfl⟩
    have but5:But (·=R) wo w5:=by rw[← hw5];exact aD _ _ _ _
    have OWN5:=Lib.hid (OWN.out.butT but5 KR.out (by decide));have ALL5:Hid (∀ h∈l,OwnHU w.heap.size w5 h):=fun h hh=>(ALL.out h hh).butT but5 KR.out (by decide) (by decide) (by decide)
    have KR5:Hid (Bk w5 R 24 #[.slice OA i oc]):=by rw[← hw5];exact KR.out.put 0 _
    have BW5:Hid (Below w.heap.size w w5):=by rw[← hw5];exact BW.out.setCell (p:=⟨R,0,none⟩) HBR.out _
    clear but5
    go_wp2_with fail
    (try rw[hw5]);have j0:w5.cell? ⟨R,0,none⟩=some (.slice OA i oc):=KR5.out.cell 0;refine bodyPost_ret (v:=.agg #[.slice OA i oc]) (by simp[results,Tryz.results27,go_sem,j0]) rfl ?_
    exact⟨⟨_,l,rfl,OWN5.out,ALL5.out,MS.out⟩,BW5.out⟩
  | true =>
    obtain⟨hlt9,h49⟩:=Bool.and_eq_true_iff.1 hcb
    have hlt:i < n:=of_decide_eq_true hlt9;have hi4:i < 3:=of_decide_eq_true h49;clear hlt9 h49 hcb g0;have hiz:(i:Int) < (n:Int):=by omega
    have hi0:(0:Int)≤(i:Int):=by omega
    have hi3z:(i:Int) < 3:=by omega
    obtain⟨hb,ho,rfl,hc⟩:=HA.out (by omega)
    obtain⟨h,hh⟩:∃ p,hs[i]?=some p:=⟨_,List.getElem?_eq_getElem (by rw[HN.out];exact hlt)⟩
    have hmem:h∈hs:=List.mem_of_getElem? hh;have HC:=Lib.hid (fun W hW c u hu=>hc W hW i h hh c u hu)
    obtain⟨P,hP⟩:∃ P,ho+i*2=P:=⟨_,rfl⟩
    rw[hP] at HC;have hUr:=HU.out h hmem
    obtain⟨AU,cu,huv,hcU⟩:=hUr.1.at
    have HUI:=Lib.hid hUr.2;have hsm:=HSM.out h hmem;have HSU:=Lib.hid hsm.2;have eh:aA h=[.string (aa h.name),.slice AU h.users.length cu]:=by unfold aA;rw[huv]
    obtain⟨m,hm⟩:∃ m,h.users.length=m:=⟨_,rfl⟩
    have HM:=Lib.hid hm;have hml:m≤1000000:=by rw[← hm];exact hsm.1
    rw[eh,hm] at HC;rw[hm] at hcU;have HCU:=Lib.hid hcU
    obtain⟨xs,hus⟩:∃ us,h.users=us:=⟨_,rfl⟩
    rw[hus] at HM HCU HUI HSU;have HP1:Hid (∀ W,Below w.heap.size w W→W.cell? ⟨hb,P+1,none⟩=some (.slice AU m cu)):=fun W hW=>HC.out W hW 1 _ rfl
    have HHN:Hid (∀ W,Bk W T 9 #[.string ⟨#[104]⟩,.string ⟨#[120,46,121]⟩,.string ⟨#[122]⟩]→W.cell? ⟨T,i,none⟩=some (.string (aa (iZ i)))):=fun W h=>sq h hi4
    obtain⟨HN9,hHN9⟩:∃ J,aa (iZ i)=J:=⟨_,rfl⟩
    rw[hHN9] at HHN;have HHN9:=Lib.hid hHN9;have t0:=HHN.out wo KT.out;clear hc hh hmem HC huv hcU hsm eh hm hUr hus hHN9
    obtain⟨HN,hHNx⟩:∃ J,HN9=J:=⟨_,rfl⟩
    rw[hHNx] at HHN HHN9 t0;clear hHNx
    obtain⟨Wa,hWa⟩:∃ W,wo.alloc (.cells #[.string ⟨#[]⟩,.slice none 0 0] 47)=W:=⟨_,rfl⟩
    obtain⟨H,hH⟩:∃ b,wo.heap.size=b:=⟨_,rfl⟩
    have KA:Hid (Bk Wa H 47 #[.string ⟨#[]⟩,.slice none 0 0]):=by rw[← hWa,← hH];exact Bk.new _ _ _
    have BA:Below wo.heap.size wo Wa:=by rw[← hWa];exact(Below.refl _ _).alloc (Nat.le_refl _) _
    have HHW:Hid (wo.heap.size≤H):=by rw[← hH];exact Nat.le_refl _
    have r0:Wa.cell? ⟨H,0,none⟩=some (.string ⟨#[]⟩):=KA.out.cell 0;have r1:Wa.cell? ⟨H,1,none⟩=some (.slice none 0 0):=KA.out.cell 1;have s0:=KA.out.free 0;have s1:=KA.out.free 1;have KB:=Lib.hid (dv KA.out (.string HN) (.slice none 0 0));have BB:=Lib.hid (cn BA HHW.out (.string HN) (.slice none 0 0))
    obtain⟨Wb,hWb⟩:∃ z,dE Wa H (.string HN) (.slice none 0 0)=z:=⟨_,rfl⟩
    rw[hWb] at KB BB;have UO0:Hid (OwnV af 4 28 wo.heap.size Wb (.slice none 0 0) ([]:List aC)):=OwnV.nil;have UA0:Hid (∀ u∈([]:List aC),OwnU wo.heap.size Wb u):=fun u hu=>by cases hu
    have UN0:Hid (∀ j v,([]:List aC)[j]?=some v→es (dT j) v):=fun j v hv=>by simp at hv
    have UL0:Hid (([]:List aC).length=0):=rfl;clear BA
    go_upto_region 7 with fail
    (try rw[hWb]);clear hWa hH hWb r0 r1 s0 s1 t0
    go_wp2_with fail
    go_loopw [7] (fun kv wr=>∃ (k:Nat) (us:List aC) (UA:Option Addr) (uc:Nat),kv=.int .i64 k∧k≤m∧k≤3∧Hid (us.length=k)∧Hid (Bk wr H 47 #[.string HN,.slice UA k uc])∧Hid (OwnV af 4 28 wo.heap.size wr (.slice UA k uc) us)∧Hid (∀ u∈us,OwnU wo.heap.size wr u)∧Hid (∀ j v,us[j]?=some v→es (dT j) v)∧Hid (Below wo.heap.size wo wr)) (fun kv _=>3 - (intOf kv).toNat)
    case atStart=>exact⟨0,[],none,0,rfl,Nat.zero_le _,by omega,UL0,KB,UO0,UA0,UN0,BB⟩
    case round =>
     clear UL0 KB UO0 UA0 UN0 BB
     obtain⟨k,us,UA,uc,rfl,hk,hk3,HUL,KH,UOWN,UALL,UNR,BI⟩:=hrel
     have HUPR:Hid (∀ W,Below wo.heap.size wo W→Below w.heap.size w W):=fun W hW=>BW.out.trans (hW.mono BW.out.size)
     have g0:wr.cell? ⟨G,0,none⟩=some (.slice (some ⟨hb,ho,none⟩) n cap):=(KG.out.below BI.out KG.out.lt).cell 0;have p1:wr.cell? ⟨hb,P+1,none⟩=some (.slice AU m cu):=HP1.out wr (HUPR.out wr BI.out)
     go_upto_region 8 with fail
     go_cut [37] from 25 to 37 (fun s wx=>s=.bool (decide (k < m)&&decide (k < 3))∧wx=wr)
     case first =>
      by_cases hlt:k < m
      · have hltd:decide (k < m)=true:=decide_eq_true hlt
        by_cases h4:k < 3
        · have h4d:decide (k < 3)=true:=decide_eq_true h4
          have h4i:decide ((k:Int) < 3)=true:=decide_eq_true (by omega)
          go_wp2_with fail
          go_meet
          exact⟨by rw[hltd,h4d];first | rfl | (rw[h4i];rfl),rfl⟩
        · have h4d:decide (k < 3)=false:=decide_eq_false h4
          have h4i:decide ((k:Int) < 3)=false:=decide_eq_false (by omega)
          go_wp2_with fail
          go_meet
          exact⟨by rw[hltd,h4d];first | (simp;done) | (simp;omega),rfl⟩
      · have hltd:decide (k < m)=false:=decide_eq_false hlt
        go_wp2_with fail
        go_meet
        exact⟨by rw[hltd];rfl,rfl⟩
     case rest =>
     obtain⟨hsl9,hwc⟩:=hcut
     have hwc2:=hwc.symm;subst hwc2;clear hwc
     obtain⟨cb,hcb⟩:∃ b,(decide (k < m)&&decide (k < 3))=b:=⟨_,rfl⟩
     rw[hcb] at hsl9;subst hsl9;cases cb with
     | false =>
       clear hcb g0 p1;have KGq:=Lib.hid (KG.out.below BI.out KG.out.lt);have KRq:=Lib.hid (KR.out.below BI.out KR.out.lt);have KOq:=Lib.hid (KO.out.below BI.out KO.out.lt);have KTq:=Lib.hid (KT.out.below BI.out KT.out.lt);have OWNq:=Lib.hid (OWN.out.below BI.out);have ALLq:Hid (∀ h∈l,OwnHU w.heap.size wr h):=fun h hh=>(ALL.out h hh).below BI.out
       have BWq:=Lib.hid (HUPR.out wr BI.out);have o0:wr.cell? ⟨O,0,none⟩=some (.slice OA i oc):=KOq.out.cell 0;have c0:wr.cell? ⟨H,0,none⟩=some (.string HN):=KH.out.cell 0;have c1:wr.cell? ⟨H,1,none⟩=some (.slice UA k uc):=KH.out.cell 1
       obtain⟨y,hy⟩:∃ y:aK,y=⟨iZ i,us,(UA,k,uc)⟩:=⟨_,rfl⟩
       have HEY:Hid (aA y=[.string HN,.slice UA k uc]):=by unfold Hid;rw[hy,← HHN9.out];rfl
       have HMY:Hid (sO i y):=by rw[hy];exact⟨rfl,by show us.length≤3;rw[HUL.out];exact hk3,UNR.out⟩
       have HOY:Hid (OwnHU w.heap.size wr y):=by
        rw[hy]
        exact⟨UOWN.out.weak BWR.out,fun u hu=>(UALL.out u hu).weak BWR.out⟩
       obtain⟨Wc,hWc⟩:∃ W,wr.alloc (.cells #[.string HN,.slice UA k uc] 47)=W:=⟨_,rfl⟩
       obtain⟨E,hE⟩:∃ b,wr.heap.size=b:=⟨_,rfl⟩
       have bC:Below wr.heap.size wr Wc:=by rw[← hWc];exact(Below.refl _ _).alloc (Nat.le_refl _) _
       have KC:Hid (Bk Wc E 47 #[.string HN,.slice UA k uc]):=by rw[← hWc,← hE];exact Bk.new _ _ _
       have KGc:=Lib.hid (KGq.out.below bC KGq.out.lt);have KRc:=Lib.hid (KRq.out.below bC KRq.out.lt);have KOc:=Lib.hid (KOq.out.below bC KOq.out.lt);have KTc:=Lib.hid (KTq.out.below bC KTq.out.lt);have OWNc:=Lib.hid (OWNq.out.below bC);have ALLc:Hid (∀ h∈l++[y],OwnHU w.heap.size Wc h):=fun h hh=>by
        rcases List.mem_append.1 hh with hh | hh
        · exact(ALLq.out h hh).below bC
        · obtain rfl:=List.mem_singleton.1 hh
          exact HOY.out.below bC
       have BWc:Hid (Below w.heap.size w Wc):=BWq.out.trans (bC.mono BWq.out.size);have HWc:=Lib.hid hWc;have HE:=Lib.hid hE;clear hy bC hWc hE KGq KRq KOq KTq OWNq ALLq BWq
       go_wp2_with (at_builtin;(try rw[HWc.out]);(try rw[HE.out]);refine BigFrame.wpList_want rfl (fun K hK=>?_);refine uO _ _ rfl w.heap.size (.slice OA i oc) ⟨E,0,none⟩ l y Wc BWc.out.size rfl OWNc.out rfl (fun j u hj=>by rw[aJ,Nat.zero_add,KC.out.cell,← Array.getElem?_toList,← hj];rw[HEY.out]) (by rw[LL.out];omega) ?_;intro v9 w9 o9 b9 f9;have hl9:(l++[y]).length=i+1:=(by rw[List.length_append,LL.out];rfl);obtain⟨A9,c9,hv9⟩:=o9.slice;rw[hl9] at hv9;subst hv9;have KO9:=Lib.hid (iH OWNc.out KOc.out (by decide) f9);have m0:w9.cell? ⟨O,0,none⟩=some (.slice OA i oc):=KO9.out.cell 0;have mf0:w9.frozen? ⟨O,0,none⟩=false:=KO9.out.free 0;refine hK _ _ ?_;clear hK K)
       have KG9:=Lib.hid (iH OWNc.out KGc.out (by decide) f9);have KR9:=Lib.hid (iH OWNc.out KRc.out (by decide) f9);have KT9:=Lib.hid (iH OWNc.out KTc.out (by decide) f9);have ALL9:Hid (∀ h∈l++[y],OwnHU w.heap.size w9 h):=fun h hh=>(ALLc.out h hh).far_row OWNc.out (by decide) (by decide) (by decide) f9
       have HL9:=Lib.hid hl9;have MS9:=Lib.hid (qI LL.out hi4 MS.out HMY.out);have BW9:Hid (Below w.heap.size w w9):=BWc.out.trans b9;have OWN9:=Lib.hid o9
       obtain⟨w8,hw8⟩:∃ z,w9.setCell ⟨O,0,none⟩ (.slice A9 (i+1) c9)=z:=⟨_,rfl⟩
       have but8:But (·=O) w9 w8:=by rw[← hw8];exact aD _ _ _ _
       have KG8:Hid (Bk w8 G 24 #[.slice (some ⟨hb,ho,none⟩) n cap]):=but8.bkI KG9.out (fun e=>HNG.out e);have KR8:Hid (Bk w8 R 24 #[.slice none 0 0]):=but8.bkI KR9.out (fun e=>HNR.out e);have KO8:Hid (Bk w8 O 24 #[.slice A9 (i+1) c9]):=by rw[← hw8];exact KO9.out.put 0 _
       have KT8:Hid (Bk w8 T 9 #[.string ⟨#[104]⟩,.string ⟨#[120,46,121]⟩,.string ⟨#[122]⟩]):=but8.bkI KT9.out (fun e=>by have e2:T=O:=e;subst e2;exact absurd (eZ KT9.out KO9.out) (by decide));have OWN8:=Lib.hid (OWN9.out.butT but8 KO9.out (by decide));have ALL8:Hid (∀ h∈l++[y],OwnHU w.heap.size w8 h):=fun h hh=>(ALL9.out h hh).butT but8 KO9.out (by decide) (by decide) (by decide)
       have BW8:Hid (Below w.heap.size w w8):=by rw[← hw8];exact BW9.out.setCell (p:=⟨O,0,none⟩) HBO.out _
       clear o9 b9 f9 but8 hl9
       go_wp2_with fail
       (try rw[hw8]);clear hw8;go_roundw
       case rel=>exact⟨i+1,_,_,l++[y],A9,c9,by go_num,rfl,rfl,by omega,by omega,HL9,KG8,KR8,KO8,KT8,OWN8,ALL8,MS9,BW8⟩
       case measure=>simp[intOf];omega
     | true =>
       obtain⟨hlt9,h49⟩:=Bool.and_eq_true_iff.1 hcb
       have hkm:k < m:=of_decide_eq_true hlt9;have h4:k < 3:=of_decide_eq_true h49;clear hlt9 h49 hcb g0 p1;have hkz:(k:Int) < (m:Int):=by omega
       have hk00:(0:Int)≤(k:Int):=by omega
       obtain⟨ub,uo,rfl,hcu⟩:=HCU.out (by omega)
       obtain⟨x,hx⟩:∃ p,xs[k]?=some p:=⟨_,List.getElem?_eq_getElem (by rw[HM.out];exact hkm)⟩
       have hmu:x∈xs:=List.mem_of_getElem? hx;have HCX:=Lib.hid (fun W hW c q hq=>hcu W hW k x hx c q hq)
       obtain⟨Q,hQ⟩:∃ P,uo+k*4=P:=⟨_,rfl⟩
       rw[hQ] at HCX;have HPU:Hid (∀ W,Below w.heap.size w W→Calls Tryz.prog 54 #[.agg (af x).toArray,.string (aa (dT k))] W fun e w'=>(∃ u,e=.returned (.agg (af u).toArray)∧OwnU W.heap.size w' u∧es (dT k) u)∧Below W.heap.size W w'):=fun W hW=>HPUS.out x (dT k) W ((HUI.out x hmu).upon hW) (HSU.out x hmu)
       clear hcu hx hmu
       obtain⟨x1,x2,x3,⟨IA0,in0,ic0⟩,x4,⟨PA0,pn0,pc0⟩⟩:=x
       have ex:af ⟨x1,x2,x3,(IA0,in0,ic0),x4,(PA0,pn0,pc0)⟩=[.string (aa x1),.string (aa x2),.slice IA0 in0 ic0,.slice PA0 pn0 pc0]:=rfl;rw[ex] at HCX HPU
       obtain⟨UX,hUX⟩:∃ J,aa x1=J:=⟨_,rfl⟩
       obtain⟨UM,hUM⟩:∃ J,aa x2=J:=⟨_,rfl⟩
       obtain⟨NK,hNK⟩:∃ J,aa (dT k)=J:=⟨_,rfl⟩
       have HUNK:=Lib.hid hNK;rw[hUX,hUM] at HCX HPU;rw[hNK] at HPU;have HSS:Hid (∀ W,Below wo.heap.size wo W→Bk W H 47 #[.string HN,.slice UA k uc]→W.cell? ⟨H,1,none⟩=some (.slice UA k uc)∧W.cell? ⟨G,0,none⟩=some (.slice (some ⟨hb,ho,none⟩) n cap)∧W.cell? ⟨hb,P+1,none⟩=some (.slice (some ⟨ub,uo,none⟩) m cu)∧W.cell? ⟨ub,Q,none⟩=some (.string UX)∧W.cell? ⟨ub,Q+1,none⟩=some (.string UM)∧W.cell? ⟨ub,Q+2,none⟩=some (.slice IA0 in0 ic0)∧W.cell? ⟨ub,Q+3,none⟩=some (.slice PA0 pn0 pc0)):=fun W hW hk =>
        ⟨hk.cell 1,(KG.out.below hW KG.out.lt).cell 0,HP1.out W (HUPR.out W hW),HCX.out W (HUPR.out W hW) 0 _ rfl,HCX.out W (HUPR.out W hW) 1 _ rfl,HCX.out W (HUPR.out W hW) 2 _ rfl,HCX.out W (HUPR.out W hW) 3 _ rfl⟩
       clear ex hUX hUM hNK
       go_upto_region 10 with fail
       obtain⟨W0,hW0⟩:∃ W0,wr.drew=W0:=⟨_,rfl⟩
       have b0:Below wr.heap.size wr W0:=by rw[← hW0];exact(Below.refl _ _).drew
       have own:=Lib.hid (UOWN.out.below b0);have all:Hid (∀ u∈us,OwnU wo.heap.size W0 u):=fun u hu=>(UALL.out u hu).below b0
       have kH:=Lib.hid (KH.out.below b0 KH.out.lt);have bx:Hid (Below wo.heap.size wo W0):=BI.out.trans (b0.mono BI.out.size);have HW0:=Lib.hid hW0;clear hW0 b0;refine pa (fun w'=>w'.cell? ⟨H,1,none⟩=some (.slice UA k uc)∧w'.cell? ⟨G,0,none⟩=some (.slice (some ⟨hb,ho,none⟩) n cap)∧w'.cell? ⟨hb,P+1,none⟩=some (.slice (some ⟨ub,uo,none⟩) m cu)∧w'.cell? ⟨ub,Q,none⟩=some (.string UX)∧w'.cell? ⟨ub,Q+1,none⟩=some (.string UM)∧w'.cell? ⟨ub,Q+2,none⟩=some (.slice IA0 in0 ic0)∧w'.cell? ⟨ub,Q+3,none⟩=some (.slice PA0 pn0 pc0)) 19 (by kernel_rfl) ?_;rw[HW0.out];refine Any.take 0 (some 40) ?v1 [] (S':=fun _=>True) rfl rfl (by kernel_rfl) (by kernel_rfl) (by kernel_rfl) (by kernel_rfl) (by kernel_rfl) (by decide) (by rfl) (fun _ _ _ _=>trivial) ?y1 (fun _ _ _ h=>h) (fun _=>HSS.out _ bx.out kH.out) ?n1
       case y1=>intro w hSw;clear hSw;go_simp;try with_reducible rfl
       try simp only[Act.put,List.setIfInBounds_toArray,List.set_cons_zero,List.set_cons_succ]
       refine Any.take 1 (some 41) ?v2 [19] (S':=fun w'=>w'.cell? ⟨H,1,none⟩=some (.slice UA k uc)∧w'.cell? ⟨G,0,none⟩=some (.slice (some ⟨hb,ho,none⟩) n cap)∧w'.cell? ⟨hb,P+1,none⟩=some (.slice (some ⟨ub,uo,none⟩) m cu)∧w'.cell? ⟨ub,Q,none⟩=some (.string UX)∧w'.cell? ⟨ub,Q+1,none⟩=some (.string UM)∧w'.cell? ⟨ub,Q+2,none⟩=some (.slice IA0 in0 ic0)∧w'.cell? ⟨ub,Q+3,none⟩=some (.slice PA0 pn0 pc0)) rfl rfl (by kernel_rfl) (by kernel_rfl) (by kernel_rfl) (by kernel_rfl) (by kernel_rfl) (by decide) (by rfl) (fun _ _ hl hS=>hS (hl 19 (by simp))) ?y2 (fun _ _ _ h=>h) (fun _=>HSS.out _ bx.out kH.out) ?n2
       case y2 =>
        intro w hSw
        try dsimp only at hSw
        obtain⟨s0,s1,s2,s3,s4,s5,s6⟩:=hSw
        go_simp
        try with_reducible rfl
       try simp only[Act.put,List.setIfInBounds_toArray,List.set_cons_zero,List.set_cons_succ]
       refine Any.take 2 (some 42) ?v3 [] (S':=fun _=>True) rfl rfl (by kernel_rfl) (by kernel_rfl) (by kernel_rfl) (by kernel_rfl) (by kernel_rfl) (by decide) (by rfl) (fun _ _ _ _=>trivial) ?y3 (fun _ _ _ h=>h) (fun _=>HSS.out _ bx.out kH.out) ?n3
       case y3=>intro w hSw;clear hSw;go_simp;try with_reducible rfl
       try simp only[Act.put,List.setIfInBounds_toArray,List.set_cons_zero,List.set_cons_succ]
       refine Any.take 3 (some 43) ?v4 [19] (S':=fun w'=>w'.cell? ⟨H,1,none⟩=some (.slice UA k uc)∧w'.cell? ⟨G,0,none⟩=some (.slice (some ⟨hb,ho,none⟩) n cap)∧w'.cell? ⟨hb,P+1,none⟩=some (.slice (some ⟨ub,uo,none⟩) m cu)∧w'.cell? ⟨ub,Q,none⟩=some (.string UX)∧w'.cell? ⟨ub,Q+1,none⟩=some (.string UM)∧w'.cell? ⟨ub,Q+2,none⟩=some (.slice IA0 in0 ic0)∧w'.cell? ⟨ub,Q+3,none⟩=some (.slice PA0 pn0 pc0)) rfl rfl (by kernel_rfl) (by kernel_rfl) (by kernel_rfl) (by kernel_rfl) (by kernel_rfl) (by decide) (by rfl) (fun _ _ hl hS=>hS (hl 19 (by simp))) ?y4 (fun _ _ _ h=>h) (fun _=>HSS.out _ bx.out kH.out) ?n4
       case y4 =>
        intro w hSw
        try dsimp only at hSw
        obtain⟨s0,s1,s2,s3,s4,s5,s6⟩:=hSw
        go_simp
        try with_reducible rfl
       try simp only[Act.put,List.setIfInBounds_toArray,List.set_cons_zero,List.set_cons_succ]
       refine Any.take 4 (some 44) ?v5 [] (S':=fun _=>True) rfl rfl (by kernel_rfl) (by kernel_rfl) (by kernel_rfl) (by kernel_rfl) (by kernel_rfl) (by decide) (by rfl) (fun _ _ _ _=>trivial) ?y5 (fun _ _ _ h=>h) (fun _=>HSS.out _ bx.out kH.out) ?n5
       case y5=>intro w hSw;clear hSw;go_simp;try with_reducible rfl
       try simp only[Act.put,List.setIfInBounds_toArray,List.set_cons_zero,List.set_cons_succ]
       refine Any.take 5 (some 45) ?v6 [] (S':=fun _=>True) rfl rfl (by kernel_rfl) (by kernel_rfl) (by kernel_rfl) (by kernel_rfl) (by kernel_rfl) (by decide) (by rfl) (fun _ _ _ _=>trivial) ?y6 (fun _ _ _ h=>h) (fun _=>HSS.out _ bx.out kH.out) ?n6
       case y6=>intro w hSw;clear hSw;go_simp;try with_reducible rfl
       try simp only[Act.put,List.setIfInBounds_toArray,List.set_cons_zero,List.set_cons_succ]
       refine Any.take 6 (some 46) ?v7 [] (S':=fun _=>True) rfl rfl (by kernel_rfl) (by kernel_rfl) (by kernel_rfl) (by kernel_rfl) (by kernel_rfl) (by decide) (by rfl) (fun _ _ _ _=>trivial) ?y7 (fun _ _ _ h=>h) (fun _=>HSS.out _ bx.out kH.out) ?n7
       case y7=>intro w hSw;clear hSw;go_simp;try with_reducible rfl
       try simp only[Act.put,List.setIfInBounds_toArray,List.set_cons_zero,List.set_cons_succ]
       refine Any.take 7 (some 47) ?v8 [19] (S':=fun w'=>w'.cell? ⟨H,1,none⟩=some (.slice UA k uc)∧w'.cell? ⟨G,0,none⟩=some (.slice (some ⟨hb,ho,none⟩) n cap)∧w'.cell? ⟨hb,P+1,none⟩=some (.slice (some ⟨ub,uo,none⟩) m cu)∧w'.cell? ⟨ub,Q,none⟩=some (.string UX)∧w'.cell? ⟨ub,Q+1,none⟩=some (.string UM)∧w'.cell? ⟨ub,Q+2,none⟩=some (.slice IA0 in0 ic0)∧w'.cell? ⟨ub,Q+3,none⟩=some (.slice PA0 pn0 pc0)) rfl rfl (by kernel_rfl) (by kernel_rfl) (by kernel_rfl) (by kernel_rfl) (by kernel_rfl) (by decide) (by rfl) (fun _ _ hl hS=>hS (hl 19 (by simp))) ?y8 (fun _ _ _ h=>h) (fun _=>HSS.out _ bx.out kH.out) ?n8
       case y8 =>
        intro w hSw
        try dsimp only at hSw
        obtain⟨s0,s1,s2,s3,s4,s5,s6⟩:=hSw
        go_simp
        try with_reducible rfl
       try simp only[Act.put,List.setIfInBounds_toArray,List.set_cons_zero,List.set_cons_succ]
       refine Any.take 8 (some 48) ?v9 [] (S':=fun _=>True) rfl rfl (by kernel_rfl) (by kernel_rfl) (by kernel_rfl) (by kernel_rfl) (by kernel_rfl) (by decide) (by rfl) (fun _ _ _ _=>trivial) ?y9 (fun _ _ _ h=>h) (fun _=>HSS.out _ bx.out kH.out) ?n9
       case y9=>intro w hSw;clear hSw;go_simp;try with_reducible rfl
       try simp only[Act.put,List.setIfInBounds_toArray,List.set_cons_zero,List.set_cons_succ]
       refine Any.take 9 (some 49) ?v10 [] (S':=fun _=>True) rfl rfl (by kernel_rfl) (by kernel_rfl) (by kernel_rfl) (by kernel_rfl) (by kernel_rfl) (by decide) (by rfl) (fun _ _ _ _=>trivial) ?y10 (fun _ _ _ h=>h) (fun _=>HSS.out _ bx.out kH.out) ?n10
       case y10=>intro w hSw;clear hSw;go_simp;try with_reducible rfl
       try simp only[Act.put,List.setIfInBounds_toArray,List.set_cons_zero,List.set_cons_succ]
       refine Any.take 10 (some 50) ?v11 [19] (S':=fun w'=>w'.cell? ⟨H,1,none⟩=some (.slice UA k uc)∧w'.cell? ⟨G,0,none⟩=some (.slice (some ⟨hb,ho,none⟩) n cap)∧w'.cell? ⟨hb,P+1,none⟩=some (.slice (some ⟨ub,uo,none⟩) m cu)∧w'.cell? ⟨ub,Q,none⟩=some (.string UX)∧w'.cell? ⟨ub,Q+1,none⟩=some (.string UM)∧w'.cell? ⟨ub,Q+2,none⟩=some (.slice IA0 in0 ic0)∧w'.cell? ⟨ub,Q+3,none⟩=some (.slice PA0 pn0 pc0)) rfl rfl (by kernel_rfl) (by kernel_rfl) (by kernel_rfl) (by kernel_rfl) (by kernel_rfl) (by decide) (by rfl) (fun _ _ hl hS=>hS (hl 19 (by simp))) ?y11 (fun _ _ _ h=>h) (fun _=>HSS.out _ bx.out kH.out) ?n11
       case y11 =>
        intro w hSw
        try dsimp only at hSw
        obtain⟨s0,s1,s2,s3,s4,s5,s6⟩:=hSw
        go_simp
        try with_reducible rfl
       try simp only[Act.put,List.setIfInBounds_toArray,List.set_cons_zero,List.set_cons_succ]
       refine Any.take 12 (some 52) ?v12 [] (S':=fun _=>True) rfl rfl (by kernel_rfl) (by kernel_rfl) (by kernel_rfl) (by kernel_rfl) (by kernel_rfl) (by decide) (by rfl) (fun _ _ _ _=>trivial) ?y12 (fun _ _ _ h=>h) (fun _=>HSS.out _ bx.out kH.out) ?n12
       case y12=>intro w hSw;clear hSw;go_simp;try with_reducible rfl
       try simp only[Act.put,List.setIfInBounds_toArray,List.set_cons_zero,List.set_cons_succ]
       refine Any.up (rs:=[11]) (by kernel_rfl) (by simp) ?_;refine AllUp.cons (i:=11) rfl (fun K hK=>?_) (AllUp.nil)
       obtain⟨Wb,hWb⟩:∃ W9,W0.alloc (.cells #[.string ⟨#[97]⟩,.string ⟨#[98]⟩,.string ⟨#[99]⟩] 9)=W9:=⟨_,rfl⟩
       obtain⟨J,hJ⟩:∃ H9,W0.heap.size=H9:=⟨_,rfl⟩
       have bb:Below W0.heap.size W0 Wb:=by rw[← hWb];exact(Below.refl _ _).alloc (Nat.le_refl _) _
       have kJ:Hid (Bk Wb J 9 #[.string ⟨#[97]⟩,.string ⟨#[98]⟩,.string ⟨#[99]⟩]):=by rw[← hWb,← hJ];exact Bk.new _ _ _
       have own:=Lib.hid (own.out.below bb);have all:Hid (∀ u∈us,OwnU wo.heap.size Wb u):=fun u hu=>(all.out u hu).below bb
       have kH:=Lib.hid (kH.out.below bb kH.out.lt);have bx:Hid (Below wo.heap.size wo Wb):=bx.out.trans (bb.mono bx.out.size);have HWb:=Lib.hid hWb;have HJ9:=Lib.hid hJ;clear hWb hJ bb;go_simp;rw[HWb.out,HJ9.out];refine hK.out _ _ (fun _ _=>HSS.out _ bx.out kH.out) ?_;clear hK K
       try simp only[Act.put,List.setIfInBounds_toArray,List.set_cons_zero,List.set_cons_succ]
       refine Any.up (rs:=[13]) (by kernel_rfl) (by simp) ?_;refine AllUp.cons (i:=13) rfl (fun K hK=>?_) (AllUp.nil);have hk0:(0:Int)≤(k:Int):=by omega
       have hk3:(k:Int) < 3:=by omega
       go_simp;refine hK.out _ _ (fun _ _=>HSS.out _ bx.out kH.out) ?_;clear hK K hk0 hk3
       try simp only[Act.put,List.setIfInBounds_toArray,List.set_cons_zero,List.set_cons_succ]
       refine Any.up (rs:=[14]) (by kernel_rfl) (by simp) ?_;refine AllUp.cons (i:=14) rfl (fun K hK=>?_) (AllUp.nil);have cJ:=sC kJ.out h4;(try rw[HUNK.out] at cJ);go_simp;refine hK.out _ _ (fun _ _=>HSS.out _ bx.out kH.out) ?_;clear hK K cJ
       try simp only[Act.put,List.setIfInBounds_toArray,List.set_cons_zero,List.set_cons_succ]
       refine Any.up (rs:=[15]) (by kernel_rfl) (by simp) ?_;refine AllUp.cons (i:=15) rfl (fun K hK=>?_) (AllUp.nil);have egN:=Go.Proofs.enters_of Tryz.func54 (by kernel_rfl) rfl;go_simp
       refine(HPU.out Wb (HUPR.out Wb bx.out)).mono ?_
       rintro e Wc ⟨⟨u,rfl,hou,hnu⟩,bc⟩;have HOU:=Lib.hid (hou.weak bx.out.size);have HNU:=Lib.hid hnu;have own:=Lib.hid (own.out.below bc);have all:Hid (∀ u∈us,OwnU wo.heap.size Wc u):=fun u hu=>(all.out u hu).below bc
       have kH:=Lib.hid (kH.out.below bc kH.out.lt);have bx:Hid (Below wo.heap.size wo Wc):=bx.out.trans (bc.mono bx.out.size);clear bc egN hou hnu
       obtain⟨u1,u2,u3,⟨XA,xn2,xc⟩,u4,⟨YA,yn2,yc⟩⟩:=u
       have eu:(af ⟨u1,u2,u3,(XA,xn2,xc),u4,(YA,yn2,yc)⟩).toArray=#[.string (aa u1),.string (aa u2),.slice XA xn2 xc,.slice YA yn2 yc]:=rfl;rw[eu]
       obtain⟨UN,hUN⟩:∃ J,aa u1=J:=⟨_,rfl⟩
       obtain⟨UP,hUP⟩:∃ J,aa u2=J:=⟨_,rfl⟩
       obtain⟨u,hu⟩:∃ u:aC,(⟨u1,u2,u3,(XA,xn2,xc),u4,(YA,yn2,yc)⟩:aC)=u:=⟨_,rfl⟩
       have HEU:Hid (af u=[.string UN,.string UP,.slice XA xn2 xc,.slice YA yn2 yc]):=by unfold Hid;rw[← hu,← hUN,← hUP];rfl
       rw[hu] at HOU HNU;rw[hUN,hUP];clear eu hUN hUP hu;refine hK.out _ _ (fun _ _=>HSS.out _ bx.out kH.out) ?_;clear hK K
       try simp only[Act.put,List.setIfInBounds_toArray,List.set_cons_zero,List.set_cons_succ]
       refine Any.up (rs:=[16]) (by kernel_rfl) (by simp) ?_;refine AllUp.cons (i:=16) rfl (fun K hK=>?_) (AllUp.nil)
       obtain⟨Wa,hWa⟩:∃ W9,Wc.alloc (.cells #[.string UN,.string UP,.slice XA xn2 xc,.slice YA yn2 yc] 28)=W9:=⟨_,rfl⟩
       obtain⟨ha,hha⟩:∃ H9,Wc.heap.size=H9:=⟨_,rfl⟩
       have ba:Below Wc.heap.size Wc Wa:=by rw[← hWa];exact(Below.refl _ _).alloc (Nat.le_refl _) _
       have kA:Hid (Bk Wa ha 28 #[.string UN,.string UP,.slice XA xn2 xc,.slice YA yn2 yc]):=by rw[← hWa,← hha];exact Bk.new _ _ _
       have HOU:=Lib.hid (HOU.out.below ba);have own:=Lib.hid (own.out.below ba);have all:Hid (∀ u∈us,OwnU wo.heap.size Wa u):=fun u hu=>(all.out u hu).below ba
       have kH:=Lib.hid (kH.out.below ba kH.out.lt);have bx:Hid (Below wo.heap.size wo Wa):=bx.out.trans (ba.mono bx.out.size);have HWa:=Lib.hid hWa;have HHa:=Lib.hid hha;clear hWa hha ba;go_simp;rw[HWa.out,HHa.out];refine hK.out _ _ (fun _ _=>HSS.out _ bx.out kH.out) ?_;clear hK K
       try simp only[Act.put,List.setIfInBounds_toArray,List.set_cons_zero,List.set_cons_succ]
       refine Any.up (rs:=[17]) (by kernel_rfl) (by simp) ?_;refine AllUp.cons (i:=17) rfl (fun K hK=>?_) (AllUp.nil);refine rf rfl _ _ rfl wo.heap.size (.slice UA k uc) ⟨ha,0,none⟩ us u wo _ bx.out (Nat.le_refl _) rfl own.out rfl (fun j q hq=>by rw[aJ,Nat.zero_add,kA.out.cell,← Array.getElem?_toList,← hq];rw[HEU.out]) (by rw[HUL.out];omega) ?_;intro v4 w4 o4 b4 f4;have hl4:(us++[u]).length=k+1:=by rw[List.length_append,HUL.out];rfl
       obtain⟨A4,c4,hv4⟩:=o4.slice
       rw[hl4] at hv4;subst hv4;have HL4:=Lib.hid hl4;have all4:Hid (∀ v∈us++[u],OwnU wo.heap.size w4 v):=fun v hv=>by
        rcases List.mem_append.1 hv with hv | hv
        · exact(all.out v hv).far_row own.out (by decide) (by decide) f4
        · obtain rfl:=List.mem_singleton.1 hv
          exact HOU.out.far_row own.out (by decide) (by decide) f4
       have kH:=Lib.hid (iH own.out kH.out (by decide) f4);have own:=Lib.hid o4;have bx:=Lib.hid b4;clear o4 b4 f4 hl4;refine hK.out _ _ (fun _ _=>HSS.out _ bx.out kH.out) ?_;clear hK K
       try simp only[Act.put,List.setIfInBounds_toArray,List.set_cons_zero,List.set_cons_succ]
       refine Any.up (rs:=[18]) (by kernel_rfl) (by simp) ?_;refine AllUp.cons (i:=18) rfl (fun K hK=>?_) (AllUp.nil);go_simp;refine hK.out _ _ (fun _ _=>HSS.out _ bx.out kH.out) ?_;clear hK K
       try simp only[Act.put,List.setIfInBounds_toArray,List.set_cons_zero,List.set_cons_succ]
       refine Any.up (rs:=[19]) (by kernel_rfl) (by simp) ?_;refine AllUp.cons (i:=19) rfl (fun K hK=>?_) (AllUp.nil);have y0:=kH.out.cell 1;have y1:=kH.out.free 1;go_simp;refine hK.out _ _ (fun hne _=>absurd rfl hne) ?_;clear y0 y1;clear hK K
       try simp only[Act.put,List.setIfInBounds_toArray,List.set_cons_zero,List.set_cons_succ]
       refine Any.done (by kernel_rfl) ?_ _
       obtain⟨w5,hw5⟩:∃ z,w4.setCell ⟨H,1,none⟩ (.slice A4 (k+1) c4)=z:=⟨_,rfl⟩
       have but5:But (·=H) w4 w5:=by rw[← hw5];exact aD _ _ _ _
       have own5:=Lib.hid (own.out.butT but5 kH.out (by decide));have all5:Hid (∀ v∈us++[u],OwnU wo.heap.size w5 v):=fun v hv=>(all4.out v hv).butT but5 kH.out (by decide) (by decide)
       have kH5:Hid (Bk w5 H 47 #[.string HN,.slice A4 (k+1) c4]):=by rw[← hw5];exact kH.out.put 1 _
       have bx5:Hid (Below wo.heap.size wo w5):=by rw[← hw5];exact bx.out.setCell (p:=⟨H,1,none⟩) HHW.out _
       have nr5:=Lib.hid (rx HUL.out UNR.out HNU.out);rw[hw5];clear hw5 but5
       go_wp2_with fail
       go_roundw
       case rel=>exact⟨k+1,us++[u],A4,c4,by go_num,by omega,by omega,HL4,kH5,own5,all5,nr5,bx5⟩
       case measure=>simp[intOf];omega
end Go.Proofs.YtbgaglcgennhiaaGreatDoor

import Derived.Test.YtbgaglcgennhiaaGreatDoorQ11
set_option maxHeartbeats 4000000
namespace Go.Proofs.YtbgaglcgennhiaaGreatDoor
section
open Go.RowKit Tx
def Tabs (w:World):Prop:=Lib.Utf8Tabs 1 2 w
theorem Tabs.below {w w':World} (h:Tabs w) (hb:Below w.heap.size w w'):Tabs w':=Utf8Tabs_below h hb
theorem AL (s:ByteArray) (hs:s.data.toList≠[]):Lib.decodeGo s=dc s.data.toList:=by
 have hz:s.size≠0:=by intro e;exact hs (List.eq_nil_of_length_eq_zero (by rw[<-bS];exact e))
 have g:∀ i,(s.get! i)=s.data.toList.getD i 0:=fun i=>by
  cases s with
  | mk d=>
    show d[i]! = d.toList.getD i 0;by_cases h:i<d.size
    ·rw[getElem!_pos d i h];simp[List.getD,h]
    ·rw[getElem!_neg d i h];simp[List.getD,h];rfl
 unfold Lib.decodeGo;rw[if_neg hz,Lib.decode_at,Nat.sub_zero,g,g,g,g,bS,zF]
theorem sB (s:ByteArray) (c n:Nat) (w:World) (hs:s.data.toList≠[]) (hd:Hid (dc s.data.toList=(c,n))) (ht:Tabs w):
 Calls Tryz.prog 203 #[.string s] w fun e w'=>e=.returned (.tuple #[.int .i32 c,.int .i64 n])/\Below w.heap.size w w':=by
 refine(Tryz.utf8_DecodeRuneInString s w ht).mono fun e w' ⟨he,hb⟩=>?_
 rw[AL s hs,hd.out] at he;exact⟨he,hb⟩
theorem rj (a l c:Nat) (w:World) (ha:a<1000000000000000) (hl:l<1000000000000000):
 Calls Tryz.prog 166 #[.agg #[.int .i64 a,.int .i64 l],.int .i32 c] w fun e w'=>e=.returned (.agg #[.int .i64 (a+1:Nat),.int .i64 (if c<32 then l+1 else l:Nat)])/\Below w.heap.size w w':=by
 by_cases hc:c<32
 ·rw[if_pos hc];go_enter Tryz.func166,Tryz.ntmps166;(go_wp2);exact bodyPost_ret (v:=.agg #[.int .i64 (a+1:Nat),.int .i64 (l+1:Nat)]) (by simp[results,Tryz.results166,go_sem]) rfl ⟨rfl,(bp _ _).alloc (by simp) _⟩
 ·rw[if_neg hc];go_enter Tryz.func166,Tryz.ntmps166;(go_wp2);exact bodyPost_ret (v:=.agg #[.int .i64 (a+1:Nat),.int .i64 l]) (by simp[results,Tryz.results166,go_sem]) rfl ⟨rfl,(bp _ _).alloc (by simp) _⟩
theorem zg (c:Nat):jD c=((c:Int)==9||(c:Int)==10||(c:Int)==13||(decide ((32:Int)<=c)&&!((c:Int)==65534)&&!((c:Int)==65535))):=by rw[rq,Bool.eq_iff_iff];simp;omega
theorem eD (c:Nat) (w:World):
 Calls Tryz.prog 204 #[.int .i32 c] w fun e w'=>e=.returned (.bool (jD c))/\w=w':=by
 rw[zg];obtain⟨z,hz⟩:∃ z:Int,(c:Int)=z:=⟨_,rfl⟩;rw[hz];clear hz;go_enter Tryz.func204,Tryz.ntmps204;go_wp2
 all_goals (go_ret;refine⟨aV ?_,rfl⟩;simp[*])
def jp (l:List UInt8):Value:=match ch l with
 |some x=>.tuple #[.agg #[.int .i64 x.length,.int .i64 (low x)],.bool true]
 |none=>.tuple #[.agg #[.int .i64 0,.int .i64 0],.bool false]
theorem fT {l:List UInt8} {x:List Nat} (h:ch l=some x):jp l=.tuple #[.agg #[.int .i64 x.length,.int .i64 (low x)],.bool true]:=by unfold jp;rw[h]
theorem fS {l:List UInt8} (h:ch l=none):jp l=.tuple #[.agg #[.int .i64 0,.int .i64 0],.bool false]:=by unfold jp;rw[h]
theorem mF (s:ByteArray) (w:World) (hT:Tabs w) (hs:s.size<=140737488355328):
 Calls Tryz.prog 165 #[.string s,.func (.func 166) #[] #[]] w fun e w'=>e=.returned (jp s.data.toList)/\Below w.heap.size w w':=by
 go_enter Tryz.func165,Tryz.ntmps165;go_wp2_with fail
 go_loopw [8] (fun at_ wr=>∃ (k:Nat) (x:List Nat),k<=s.size/\at_=.int .i64 k/\x.length<=k/\At s.data.toList k x /\
  Bk wr w.heap.size 159 #[.int .i64 0,.int .i64 0]/\Bk wr (w.heap.size+1) 159 #[.int .i64 x.length,.int .i64 (low x)] /\
  Bk wr (w.heap.size+1+1) 159 #[.int .i64 0,.int .i64 0]/\Below w.heap.size w wr) (fun at_ _=>s.size-(intOf at_).toNat)
 case atStart=>
  refine⟨0,[],bI _,rfl,aq _,At.start _,((Bk.new _ _ _).alloc _).alloc _,?_,Bk.new2 _ _ _ _ _,?_⟩
  ·rw[sJ];exact(Bk.new1 _ _ _ _).alloc _
  ·exact((bp _ _).alloc (by simp) _).alloc (by simp;omega) _
 case round=>
  obtain⟨k,x,hk,rfl,hx,hat,B0,B1,B2,hb⟩:=hrel;have hlow:=Ae x;have hsz:=aa (bS s);have hsw:=hb.size;have l0:=B0.lt;have l1:=B1.lt;have l2:=B2.lt;by_cases hlt:k<s.size
  ·have hlt':k<s.data.toList.length:=(by rw[<-hsz.out];exact hlt);have hne:=f8 hlt';obtain⟨c,n,hd,hn1,hn2,hc1⟩:∃ c n,Hid (dc (s.data.toList.drop k)=(c,n))/\1<=n/\k+n<=s.size/\c<=1114111:=(by refine⟨_,_,aa rfl,kC _,?_,f7 _⟩;have:=vX hne;rw[List.length_drop,<-hsz.out] at this;omega);have hext:=aa (Lib.extract_to_end s k);(go_wp2_with fail);refine(sB _ c n wr (by rw[hext.out];exact hne) (by unfold Hid;rw[hext.out];exact hd.out) (hT.below hb)).mono ?_;rintro e w1 ⟨rfl,hb1⟩;have C0:=B0.below hb1 l0;have C1:=B1.below hb1 l1;have C2:=B2.below hb1 l2;have hbw:Below w.heap.size w w1:=hb.trans (hb1.mono hsw);have hs1:=hb1.size;clear B0 B1 B2;have nxe:Hid (nx (s.data.toList.drop k)=if (c==65533&&n==1||!jD c) then (0,0) else (c,n)):=(by unfold Hid;rw[xy,hd.out]);have c20:=C2.cell 0;have c21:=C2.cell 1;have f00:=C0.free 0;have f01:=C0.free 1;have c00:=C0.cell 0;have c01:=C0.cell 1;have c10:=C1.cell 0;have c11:=C1.cell 1;have f10:=C1.free 0;have f11:=C1.free 1;simp only[Nat.reduceLT,List.size_toArray,List.length_cons,List.length_nil,getElem?_pos,Nat.reduceAdd,List.getElem_toArray,List.getElem_cons_zero,List.getElem_cons_succ] at c20 c21 c00 c01 c10 c11;have r0:=((C0.put 0 (.int .i64 0)).put 1 (.int .i64 0)).cell 0;have r1:=((C0.put 0 (.int .i64 0)).put 1 (.int .i64 0)).cell 1;simp only[List.setIfInBounds_toArray,List.set_cons_zero,List.set_cons_succ,Nat.reduceLT,List.size_toArray,List.length_cons,List.length_nil,getElem?_pos,Nat.reduceAdd,List.getElem_toArray,List.getElem_cons_zero,List.getElem_cons_succ] at r0 r1;have fin:∀ h:Hid (ch s.data.toList=none),jp s.data.toList=.tuple #[.agg #[.int .i64 0,.int .i64 0],.bool false]:=(fun h=>fS h.out);by_cases hbad:(c==65533&&n==1)=true
   ·simp only[Bool.and_eq_true,beq_iff_eq] at hbad;obtain⟨rfl,rfl⟩:=hbad;have hno:Hid (ch s.data.toList=none):=hat.bad hlt' (by rw[nxe.out];rfl);(go_wp2_with fail);exact bodyPost_ret (v:=.tuple #[.agg #[.int .i64 0,.int .i64 0],.bool false]) (by simp[results,Tryz.results165,go_sem,r0,r1]) rfl ⟨by rw[fin hno],(hbw.setCell (by simp) _).setCell (by simp) _⟩
   ·have hbi:¬ ((c:Int)=65533/\(n:Int)=1):=(by intro h;apply hbad;simp only[Bool.and_eq_true,beq_iff_eq];omega);cases hok:jD c with
    | false=>
      have hno:Hid (ch s.data.toList=none):=hat.bad hlt' (by rw[nxe.out,hok,Bool.not_false,Bool.or_true,if_pos rfl]);have hgo:∀ W:World,Calls Tryz.prog 204 #[.int .i32 c] W fun e w'=>e=.returned (.bool false)/\W=w':=(fun W=>by have:=eD c W;rwa [hok] at this);have HGO:=aa hgo;clear hgo hok;by_cases h1:(c:Int)=65533
      ·have g1:((c:Int)==65533)=true:=(by simpa using h1);have g2:((n:Int)==1)=false:=(by simp;omega);clear h1 hbad;(go_wp2_with (go_at_call 204;refine(HGO.out _).mono ?_;rintro e w2 ⟨rfl,rfl⟩));exact bodyPost_ret (v:=.tuple #[.agg #[.int .i64 0,.int .i64 0],.bool false]) (by simp[results,Tryz.results165,go_sem,r0,r1]) rfl ⟨by rw[fin hno],(hbw.setCell (by simp) _).setCell (by simp) _⟩
      ·have g1:((c:Int)==65533)=false:=(by simpa using h1);clear h1 hbad;(go_wp2_with (go_at_call 204;refine(HGO.out _).mono ?_;rintro e w2 ⟨rfl,rfl⟩));exact bodyPost_ret (v:=.tuple #[.agg #[.int .i64 0,.int .i64 0],.bool false]) (by simp[results,Tryz.results165,go_sem,r0,r1]) rfl ⟨by rw[fin hno],(hbw.setCell (by simp) _).setCell (by simp) _⟩
    | true=>
      have hnx:Hid (nx (s.data.toList.drop k)=(c,n)):=(by unfold Hid;rw[nxe.out,hok,if_neg];simp only[Bool.not_true,Bool.or_false];exact hbad);have hat':=hat.next hlt' (by rw[hnx.out];show n≠0;omega);rw[hnx.out] at hat';have hgo:∀ W:World,Calls Tryz.prog 204 #[.int .i32 c] W fun e w'=>e=.returned (.bool true)/\W=w':=(fun W=>by have:=eD c W;rwa [hok] at this);have HGO:=aa hgo;have hlw:=wY x c;obtain⟨m,hm⟩:=ac (if c<32 then low x+1 else low x);have hmb:m<=low x+1:=(by rw[<-hm];split<;>omega);have HL:=(fun W=>rj x.length (low x) c W (by omega) (by omega));rw[hm] at HL hlw;have HLO:=aa HL;have HLW:=aa hlw;clear hgo hok hm HL hlw;by_cases h1:(c:Int)=65533
      ·have g1:((c:Int)==65533)=true:=(by simpa using h1);have g2:((n:Int)==1)=false:=(by simp;omega);clear h1 hbad;go_wp2_with (first|(go_at_call 204;refine(HGO.out _).mono ?_;rintro e w2 ⟨rfl,rfl⟩)|(go_at_call 166;refine(HLO.out _).mono ?_;rintro e w2 ⟨rfl,hb2⟩;have hs2:=hb2.size;have D0:=C0.below hb2 C0.lt;have D2:=C2.below hb2 C2.lt;have D1:=C1.below hb2 C1.lt;have d10:=D1.cell 0;have d11:=D1.cell 1;have g10:=D1.free 0;have g11:=D1.free 1;simp only[Nat.reduceLT,List.size_toArray,List.length_cons,List.length_nil,getElem?_pos,Nat.reduceAdd,List.getElem_toArray,List.getElem_cons_zero,List.getElem_cons_succ] at d10 d11))
       go_roundw;case rel=>exact⟨k+n,x++[c],hn2,by go_num,by simp;omega,hat',(D0.far (by simp) _).far (by simp) _,by rw[HLW.out,de];exact D1.two _ _,(D2.far (by simp) _).far (by simp) _,((hbw.trans (hb2.mono (by omega))).setCell (by simp) _).setCell (by simp) _⟩
       case measure=>simp[intOf];omega
      ·have g1:((c:Int)==65533)=false:=(by simpa using h1);clear h1 hbad;go_wp2_with (first|(go_at_call 204;refine(HGO.out _).mono ?_;rintro e w2 ⟨rfl,rfl⟩)|(go_at_call 166;refine(HLO.out _).mono ?_;rintro e w2 ⟨rfl,hb2⟩;have hs2:=hb2.size;have D0:=C0.below hb2 C0.lt;have D2:=C2.below hb2 C2.lt;have D1:=C1.below hb2 C1.lt;have d10:=D1.cell 0;have d11:=D1.cell 1;have g10:=D1.free 0;have g11:=D1.free 1;simp only[Nat.reduceLT,List.size_toArray,List.length_cons,List.length_nil,getElem?_pos,Nat.reduceAdd,List.getElem_toArray,List.getElem_cons_zero,List.getElem_cons_succ] at d10 d11))
       go_roundw;case rel=>exact⟨k+n,x++[c],hn2,by go_num,by simp;omega,hat',(D0.far (by simp) _).far (by simp) _,by rw[HLW.out,de];exact D1.two _ _,(D2.far (by simp) _).far (by simp) _,((hbw.trans (hb2.mono (by omega))).setCell (by simp) _).setCell (by simp) _⟩
       case measure=>simp[intOf];omega
  ·have hke:k=s.data.toList.length:=(by rw[<-hsz.out];omega);have hch:Hid (ch s.data.toList=some x):=At.stop (by rw[<-hke];exact hat);have c10:=B1.cell 0;have c11:=B1.cell 1;have f00:=B0.free 0;have f01:=B0.free 1;have c00:=B0.cell 0;have c01:=B0.cell 1;have r0:=(B0.two (.int .i64 x.length) (.int .i64 (low x))).cell 0;have r1:=(B0.two (.int .i64 x.length) (.int .i64 (low x))).cell 1;simp only[Nat.reduceLT,List.size_toArray,List.length_cons,List.length_nil,getElem?_pos,Nat.reduceAdd,List.getElem_toArray,List.getElem_cons_zero,List.getElem_cons_succ] at c00 c01 c10 c11 r0 r1;have fin:=fT hch.out;have FIN:=aa fin;clear fin hke;(go_wp2_with fail);exact bodyPost_ret (v:=.tuple #[.agg #[.int .i64 x.length,.int .i64 (low x)],.bool true]) (by simp[results,Tryz.results165,go_sem,r0,r1]) rfl ⟨by rw[FIN.out],(hb.setCell (by simp) _).setCell (by simp) _⟩
theorem vC (s:ByteArray) (w:World) (hT:Tabs w) (hs:s.size<=140737488355328):
 Calls Tryz.prog 222 #[.string s] w fun e w'=>e=.returned (.bool (valid s.data.toList))/\Below w.heap.size w w':=by
 have HW:=aa (mF s w hT hs);cases hch:ch s.data.toList with
 | none=>have HS:=aa (fS hch);rw[bz hch];clear hch;go_enter Tryz.func222,Tryz.ntmps222;(go_wp2_with (go_at_call 165;refine HW.out.mono ?_;rintro e w1 ⟨rfl,hb⟩;rw[HS.out]));go_ret;exact⟨rfl,hb.alloc hb.size _⟩
 | some x=>have HS:=aa (fT hch);rw[bA hch];clear hch;go_enter Tryz.func222,Tryz.ntmps222;(go_wp2_with (go_at_call 165;refine HW.out.mono ?_;rintro e w1 ⟨rfl,hb⟩;rw[HS.out]));go_ret;exact⟨rfl,hb.alloc hb.size _⟩
theorem xG (B:Nat) (v:Value) (x:List Nat) (c:Nat) (w:World) (hown:Owned B w v x) (hB:B<=w.heap.size) (hl:x.length<10000000000000) (hc:c<=1114111):
 Calls Tryz.prog 251 #[v,.int .i32 c] w (zM B w x c):=by
 obtain⟨i0,hi,hz0,hz1,hz2⟩:=info_parts nd;go_enter Tryz.func251,Tryz.ntmps251;go_wp2_with (at_builtin;refine wpList_append_own _ rfl _ _ 56 rfl B 3 i0 (.int .i64 0) 1 8 Tryz.underlying56 hi hz0 hz1 hz2 rfl (by decide) _ _ _ rfl (World.ownsRow.alloc (show w.ownsRow B 3 1 v x.length (cV x) from hown) _) ⟨w.heap.size,0,none⟩ 1 1 [.int .i64 (c:Nat)] rfl rfl ?c1 ?c2 ?c3 ?c4 ?c5 ?_)
 case c1=>
  intro j u hj
  match j,hj with
  |0,hj=>simp at hj;subst hj;simp[Addr.add]
 case c2=>intro u hu;simp at hu;subst hu;rfl
 case c3=>unfold maxLen;omega
 case c4=>omega
 case c5=>simp;omega
 intro v' w1 hown' hgrow _;have R:=mx hown hB hown' hgrow;clear hown' hgrow;go_wp2
 go_ret;exact⟨v',rfl,R.1,R.2⟩
def RunesOf (B:Nat) (w:World) (l:List UInt8) (e:Ending) (w':World):Prop:=∃ v,e=.returned (.tuple #[v,.bool (valid l)])/\Owned B w' v (dB l)/\Below B w w'
theorem RunesOf.some {B:Nat} {w w':World} {l:List UInt8} {x:List Nat} {v:Value} (h:ch l=.some x) (ho:Owned B w' v x) (hb:Below B w w'):RunesOf B w l (.returned (.tuple #[v,.bool true])) w':=⟨v,by rw[bA h],by rw[cz h];exact ho,hb⟩
theorem RunesOf.none {B:Nat} {w w':World} {l:List UInt8} (h:ch l=.none) (hb:Below B w w'):RunesOf B w l (.returned (.tuple #[.slice .none 0 0,.bool false])) w':=⟨_,by rw[bz h],by rw[gO h];exact Owned.nil _ _,hb⟩
theorem vD (s:ByteArray) (w:World) (hT:Tabs w) (hs:s.size<10000000000000):
 Calls Tryz.prog 250 #[.string s,.func (.func 251) #[] #[]] w (RunesOf w.heap.size w s.data.toList):=by
 go_enter Tryz.func250,Tryz.ntmps250;go_wp2_with fail
 go_loopw [6,8] (fun told at_ wr=>∃ (k:Nat) (x:List Nat),k<=s.size/\at_=.int .i64 k/\x.length<=k/\At s.data.toList k x /\
  Owned w.heap.size wr told x/\Below w.heap.size w wr) (fun _ at_ _=>s.size-(intOf at_).toNat)
 case atStart=>exact⟨0,[],bI _,rfl,aq _,At.start _,Owned.nil _ _,aE _ _⟩
 case round=>
  obtain⟨k,x,hk,rfl,hx,hat,hown,hb⟩:=hrel;have hsz:=aa (bS s);have hsw:=hb.size;by_cases hlt:k<s.size
  ·have hlt':k<s.data.toList.length:=(by rw[<-hsz.out];exact hlt);have hne:=f8 hlt';obtain⟨c,n,hd,hn1,hn2,hc1⟩:∃ c n,Hid (dc (s.data.toList.drop k)=(c,n))/\1<=n/\k+n<=s.size/\c<=1114111:=(by refine⟨_,_,aa rfl,kC _,?_,f7 _⟩;have:=vX hne;rw[List.length_drop,<-hsz.out] at this;omega);have hext:=aa (Lib.extract_to_end s k);(go_wp2_with fail);refine(sB _ c n wr (by rw[hext.out];exact hne) (by unfold Hid;rw[hext.out];exact hd.out) (hT.below hb)).mono ?_;rintro e w1 ⟨rfl,hb1⟩;have hbw:Below w.heap.size w w1:=hb.trans (hb1.mono hsw);have hs1:=hb1.size;have hown1:Owned w.heap.size w1 _ x:=hown.below hb1;have nxe:Hid (nx (s.data.toList.drop k)=if (c==65533&&n==1||!jD c) then (0,0) else (c,n)):=(by unfold Hid;rw[xy,hd.out]);by_cases hbad:(c==65533&&n==1)=true
   ·simp only[Bool.and_eq_true,beq_iff_eq] at hbad;obtain⟨rfl,rfl⟩:=hbad;have hno:Hid (ch s.data.toList=none):=hat.bad hlt' (by rw[nxe.out];rfl);(go_wp2_with fail);go_ret2;exact RunesOf.none hno.out hbw
   ·have hbi:¬ ((c:Int)=65533/\(n:Int)=1):=(by intro h;apply hbad;simp only[Bool.and_eq_true,beq_iff_eq];omega);cases hok:jD c with
    | false=>
      have hno:Hid (ch s.data.toList=none):=hat.bad hlt' (by rw[nxe.out,hok,Bool.not_false,Bool.or_true,if_pos rfl]);have hgo:∀ W:World,Calls Tryz.prog 204 #[.int .i32 c] W fun e w'=>e=.returned (.bool false)/\W=w':=(fun W=>by have:=eD c W;rwa [hok] at this);have HGO:=aa hgo;clear hgo hok;by_cases h1:(c:Int)=65533
      ·have g1:((c:Int)==65533)=true:=(by simpa using h1);have g2:((n:Int)==1)=false:=(by simp;omega);clear h1 hbad;(go_wp2_with (go_at_call 204;refine(HGO.out _).mono ?_;rintro e w2 ⟨rfl,rfl⟩));go_ret2;exact RunesOf.none hno.out hbw
      ·have g1:((c:Int)==65533)=false:=(by simpa using h1);clear h1 hbad;(go_wp2_with (go_at_call 204;refine(HGO.out _).mono ?_;rintro e w2 ⟨rfl,rfl⟩));go_ret2;exact RunesOf.none hno.out hbw
    | true=>
      have hnx:Hid (nx (s.data.toList.drop k)=(c,n)):=(by unfold Hid;rw[nxe.out,hok,if_neg];simp only[Bool.not_true,Bool.or_false];exact hbad);have hat':=hat.next hlt' (by rw[hnx.out];show n≠0;omega);rw[hnx.out] at hat';have hgo:∀ W:World,Calls Tryz.prog 204 #[.int .i32 c] W fun e w'=>e=.returned (.bool true)/\W=w':=(fun W=>by have:=eD c W;rwa [hok] at this);have HGO:=aa hgo;have HP:=aa (xG w.heap.size _ x c w1 hown1 (by omega) (by omega) hc1);clear hgo hok;by_cases h1:(c:Int)=65533
      ·have g1:((c:Int)==65533)=true:=(by simpa using h1);have g2:((n:Int)==1)=false:=(by simp;omega);clear h1 hbad;go_wp2_with (first|(go_at_call 204;refine(HGO.out _).mono ?_;rintro e w2 ⟨rfl,rfl⟩)|(go_at_call 251;refine HP.out.mono ?_;rintro e w2 ⟨v2,rfl,hown2,hb2⟩))
       go_roundw;case rel=>exact⟨k+n,x++[c],hn2,by go_num,by simp;omega,hat',hown2,hbw.trans hb2⟩
       case measure=>simp[intOf];omega
      ·have g1:((c:Int)==65533)=false:=(by simpa using h1);clear h1 hbad;go_wp2_with (first|(go_at_call 204;refine(HGO.out _).mono ?_;rintro e w2 ⟨rfl,rfl⟩)|(go_at_call 251;refine HP.out.mono ?_;rintro e w2 ⟨v2,rfl,hown2,hb2⟩))
       go_roundw;case rel=>exact⟨k+n,x++[c],hn2,by go_num,by simp;omega,hat',hown2,hbw.trans hb2⟩
       case measure=>simp[intOf];omega
  ·have hke:k=s.data.toList.length:=(by rw[<-hsz.out];omega);have hch:Hid (ch s.data.toList=some x):=At.stop (by rw[<-hke];exact hat);clear hke;(go_wp2_with fail);go_ret2;exact RunesOf.some hch.out hown hb
def kd (B:Nat) (w:World) (l:List UInt8) (e:Ending) (w':World):Prop:=∃ v,e=.returned v/\Owned B w' v (dB l)/\Below B w w'
theorem uF (s:ByteArray) (w:World) (hT:Tabs w) (hs:s.size<10000000000000):
 Calls Tryz.prog 224 #[.string s] w (kd w.heap.size w s.data.toList):=by
 have HW:=aa (vD s w hT hs);go_enter Tryz.func224,Tryz.ntmps224;go_wp2_with (go_at_call 250;refine HW.out.mono ?_;rintro e w1 ⟨v,rfl,hown,hb⟩)
 go_ret;exact⟨_,rfl,hown,hb⟩
end
section
open Go.RowKit Rg Tx
def eF (k:Nat) (l:List UInt8):Value:=.tuple #[.string ⟨(Pr.prepL k l).1.toArray⟩,.int .i64 ((Pr.prepL k l).2:Nat)]
theorem eo {k:Nat} {l a:List UInt8} {n:Nat} (h:Pr.prepL k l=(a,n)):eF k l=.tuple #[.string ⟨a.toArray⟩,.int .i64 (n:Nat)]:=by unfold eF;rw[h]
theorem k6 (k:Nat) (s:ByteArray) (u q:Value) (w:World) (hT:Tabs w) (hs:s.size<=1000000000) (hp:Adds w u (Pr.put (k != 3))) (hq:Asks w q (Pr.wrong k)):
 Calls Tryz.prog 193 #[.string s,u,q] w fun e w'=>e=.returned (eF k s.data.toList)/\Below w.heap.size w w':=by
 have HV:=aa (vC s w hT (by omega));have HR:=aa (fun W (h:Below w.heap.size w W)=>uF s W (hT.below h) (by omega));have HP:=aa hp;have HQ:=aa hq;have hsz:=bS s;cases hch:ch s.data.toList with
 | none=>
   have HF:=aa (eo (Pr.prepL_bad (k:=k) (bz hch)));rw[bz hch] at HV;rw[HF.out];obtain⟨F,cb,rfl,-,-⟩:=hp;obtain⟨G,gb,rfl,-,-⟩:=hq;clear hch hsz hT;go_enter Tryz.func193,Tryz.ntmps193;(go_wp2_with fail);refine HV.out.mono ?_;rintro e w1 ⟨rfl,b1⟩;(go_wp2_with fail);go_ret2
   exact⟨rfl,b1⟩
 | some x=>
   have hx0:=dp _ _ _ (aq _) hch;have hxl:=fZ _ _ _ (aq _) hch;rw[<-hsz] at hxl;have hxm:∀ c∈x,c<=1114111:=(fun c hc=>by have:=(hx0 c hc).1;unfold cB at this;omega);have hone:∀ c,(Pr.one (k != 3) c).length<=2:=fun c=>by
    unfold Pr.one Pr.put Pr.small
    repeat' split
    all_goals simp
   have hyl:=dS hone x;obtain⟨y,hy⟩:=ac (x.flatMap (Pr.one (k != 3)));have hys:∀ c∈y,cB c:=(by rw[<-hy];exact Pr.mapL_each (p:=cB) fun c hc d hd=>(Pr.one_fine _ (hx0 c hc) d hd).1);have hpl:Pr.prepL k s.data.toList=Pr.prepC k y:=(by rw[Pr.prepL_ch hch,<-hy];rfl);rw[hy] at hyl;have HL:=aa (fun W (h:Below w.heap.size w W)=>wT u _ W (hp.below h));have HM:=aa (fun v f W (hv:Reads W.heap.size W v x) (ha:Adds W f (Pr.one (k != 3)))=>rn v f x _ W hv (by omega) hxm hone ha);have HC:=aa (fun v q W (hv:Reads W.heap.size W v y) (ha:Asks W q (Pr.wrong k))=>eS v q y _ W hv (by omega) ha);have HO:=aa (fun v W (hv:Reads W.heap.size W v y)=>rt v y W hv (by omega));have HB:=aa (fun v W (hv:Reads W.heap.size W v y)=>s9 v y W hv (by omega) hys);have HT:Hid (∀ B W v,OwnB B W v (flat y)->(convert 57 9 v).run Tryz.prog W=.ok (.string ⟨(flat y).toArray⟩) W):=(fun B W v h=>h.text Tryz.underlying57 Tryz.underlying5 Tryz.underlying9);rw[hy] at HM;have HX:=aa (fW (bA hch));have hrx:dB s.data.toList=x:=cz hch;have HR2:=aa (fun W (h:Below w.heap.size w W)=>(HR.out W h).mono (fun e w' (h:kd W.heap.size W s.data.toList e w')=>show ∃ v,e=.returned v/\Owned W.heap.size w' v x/\Below W.heap.size W w' from by obtain⟨v,h1,h2,h3⟩:=h;rw[hrx] at h2;exact⟨v,h1,h2,h3⟩));rw[bA hch] at HV;obtain⟨r,hr⟩:=ac (eF k s.data.toList);have HE:=aa (fun a n (h:Pr.prepC k y=(a,n))=>hr.symm.trans (eo (hpl.trans h)));have HC0:=aa (fun (h:y.any (Pr.wrong k)=true)=>HE.out _ _ (Pr.prepC_char h));have HC1:=aa (fun (h:y.any (Pr.wrong k)=false) (h2:Pr.wayB y=false)=>HE.out _ _ (Pr.prepC_ways h h2));have HC2:=aa (fun (h:y.any (Pr.wrong k)=false) (h2:Pr.wayB y=true)=>HE.out _ _ (Pr.prepC_kept h h2));rw[hr];obtain⟨F,cb,rfl,-,-⟩:=hp;obtain⟨G,gb,rfl,-,-⟩:=hq;clear hch hsz hT hx0 hxl hxm hone hyl hy hys hpl hrx hr HR HX HE;go_enter Tryz.func193,Tryz.ntmps193;(go_wp2_with fail);refine HV.out.mono ?_;rintro e w1 ⟨rfl,b1⟩;have B1:=aa b1;clear b1;(go_wp2_with fail);refine(HR2.out w1 B1.out).mono ?_;rintro e w2 ⟨v2,rfl,o2,b2⟩;have B2:=aa (B1.out.trans (b2.mono B1.out.size));have O2:=aa o2;obtain⟨A2,c2,rfl⟩:=o2.slice;clear o2 b2;(go_wp2_with fail);refine(HL.out w2 B2.out).mono ?_;rintro e w3 ⟨v3,rfl,a3,b3⟩;have B3:=aa (B2.out.trans (b3.mono B2.out.size));have O3:=aa (O2.out.below b3);have A3:=aa a3;obtain⟨L,lb,rfl,-,-⟩:=a3;have M3:=aa (HM.out _ _ w3 O3.out.reads A3.out);clear b3;(go_wp2_with fail);refine M3.out.mono ?_;rintro e w4 ⟨v4,rfl,o4,b4⟩;have B4:=aa (B3.out.trans (b4.mono B3.out.size));have O4:=aa o4;obtain⟨A4,c4,hv4⟩:=o4.slice;obtain⟨n4,hn4⟩:=ac y.length;rw[hn4] at hv4;subst hv4;have C4:=aa (HC.out _ _ w4 O4.out.reads (HQ.out.below B4.out));obtain⟨b,hb⟩:=ac (y.any (Pr.wrong k));rw[hb] at C4;have HBB:=aa hb;clear o4 b4 M3 hb hn4;(go_wp2_with fail);refine C4.out.mono ?_;rintro e w5 ⟨rfl,b5⟩;have B5:=aa (B4.out.trans (b5.mono B4.out.size));have O5:=aa (O4.out.below b5);clear b5;cases b with
   | true=>
     have HF:=aa (HC0.out HBB.out);(go_wp2_with fail);go_ret2
     exact⟨by rw[HF.out];rfl,B5.out⟩
   | false=>
     have W5:=aa (HO.out _ w5 O5.out.reads);obtain⟨t,ht⟩:=ac (Pr.wayB y);rw[ht] at W5;have HTT:=aa ht;clear ht;(go_wp2_with fail);refine W5.out.mono ?_;rintro e w6 ⟨rfl,b6⟩;have B6:=aa (B5.out.trans (b6.mono B5.out.size));have O6:=aa (O5.out.below b6);clear b6;cases t with
     | false=>
       have HF:=aa (HC1.out HBB.out HTT.out);(go_wp2_with fail);go_ret2
       exact⟨by rw[HF.out];rfl,B6.out⟩
     | true=>
       have HF:=aa (HC2.out HBB.out HTT.out);obtain⟨z,hz⟩:∃ z:ByteArray,(⟨(flat y).toArray⟩:ByteArray)=z:=⟨_,rfl⟩;have Y6:=aa (HB.out _ w6 O6.out.reads);rw[hz] at HT HF;clear hz;(go_wp2_with fail);refine Y6.out.mono ?_;rintro e w7 ⟨v7,rfl,o7,b7⟩;have hcv:=HT.out _ _ _ o7;have B7:=aa (B6.out.trans (b7.mono B6.out.size));obtain⟨A7,c7,rfl⟩:=o7.slice;obtain⟨n7,hn7⟩:=ac ((flat y).length);rw[hn7] at hcv;rw[hn7];clear o7 b7 hn7;(go_wp2_with fail);go_ret2
       exact⟨by rw[HF.out];rfl,B7.out⟩
end
end Go.Proofs.YtbgaglcgennhiaaGreatDoor


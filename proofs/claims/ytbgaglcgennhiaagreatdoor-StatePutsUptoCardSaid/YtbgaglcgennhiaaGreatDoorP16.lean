import Derived.Test.YtbgaglcgennhiaaGreatDoorP15
section
namespace Go.Proofs.YtbgaglcgennhiaaGreatDoor
open Go.RowKit Rg Tx
def ke (xs:List (List UInt8)):List Value:=xs.map fun x=>.string ⟨x.toArray⟩
theorem rz {xs:List (List UInt8)} {k:Nat} (h:k < xs.length):(ke xs)[k]?=some (.string ⟨(xs.getD k []).toArray⟩):=by
 unfold ke;rw[List.getElem?_map,List.getElem?_eq_getElem h,List.getD,List.getElem?_eq_getElem h];rfl
theorem uV {xs:List (List UInt8)} {k:Nat} (h:k < xs.length) (hp:Jd.badB (xs.getD k [])=true):xs.any Jd.badB=true:=by
 rw[List.any_eq_true]
 refine⟨xs.getD k [],?_,hp⟩
 rw[List.getD,List.getElem?_eq_getElem h];exact List.getElem_mem h
theorem sJ {xs:List (List UInt8)} (h:∀ k,k < xs.length→Jd.badB (xs.getD k [])=false):xs.any Jd.badB=false:=by
 rw[List.any_eq_false];intro c hc
 obtain⟨k,hk,rfl⟩:=List.getElem_of_mem hc
 have:=h k hk
 rw[List.getD,List.getElem?_eq_getElem hk] at this;simpa using this
set_option maxHeartbeats 1000000 in
theorem jF (g cap n:Nat) (xs:List (List UInt8)) (hn:xs.length=n) (w:World) (hc:∀ k,k < n→w.cell? ⟨g,k,none⟩=some (.string ⟨(xs.getD k []).toArray⟩)) (hl:n≤1000000000) (hs:∀ x∈xs,x.length≤1000000000) :
 Calls Tryz.prog 160 #[.slice (some ⟨g,0,none⟩) n cap,.func (.func 121) #[] #[]] w fun e w'=>(∃ z:Int,e=.returned (.int .i64 z)∧decide (z≥0)=xs.any Jd.badB)∧w'=w:=by
 have eg:∀ args W,(callFunc 121 args).run Tryz.prog W=.ok (.enter 121 args) W:=Go.Proofs.enters_of Tryz.func121 (by kernel_rfl) rfl;have HX:=Lib.hid hc;have HP:=Lib.hid (fun (k:Nat) (h:k < n)=>sd ⟨(xs.getD k []).toArray⟩ w (by
  rw[Lib.size_eq];refine hs (xs.getD k []) ?_;rw[List.getD,List.getElem?_eq_getElem (by omega)];exact List.getElem_mem _))
 have HH:=Lib.hid (fun (k:Nat) (h:k < n) (h2:Jd.badB (xs.getD k [])=true)=>uV (by omega) h2);have HM:=Lib.hid (fun (h:∀ k,k < n→Jd.badB (xs.getD k [])=false)=>sJ (fun k hk=>h k (by omega)));clear hc hs hn;go_enter Tryz.func160,Tryz.ntmps160
 go_wp2_with fail
 go_loop [8] (fun i=>∃ (k:Nat),k≤n∧i=.int .i64 k∧Hid (∀ j,j < k→Jd.badB (xs.getD j [])=false)) (fun i=>n - (intOf i).toNat)
 case atStart=>exact⟨0,Nat.zero_le _,rfl,Lib.hid (fun j h=>absurd h (Nat.not_lt_zero _))⟩
 case round =>
  obtain⟨k,hk,rfl,hno⟩:=hrel
  by_cases hlt:k < n
  · have c0:=HX.out k hlt
    have HP1:=Lib.hid (HP.out k hlt)
    obtain⟨b,hb⟩:∃ b,Jd.badB (xs.getD k [])=b:=⟨_,rfl⟩
    have hb1:Jd.badB (⟨(xs.getD k []).toArray⟩:ByteArray).data.toList=b:=hb;rw[hb1] at HP1
    obtain⟨x,hx⟩:∃ x:ByteArray,⟨(xs.getD k []).toArray⟩=x:=⟨_,rfl⟩
    rw[hx] at c0 HP1;have HB:=Lib.hid hb;clear hb hb1 hx
    go_wp2_with fail
    refine HP1.out.mono ?_;rintro e w2 ⟨rfl,rfl⟩;cases b with
    | true =>
      have hf:=Lib.hid (HH.out k hlt HB.out)
      go_wp2_with fail
      go_ret
      exact⟨⟨_,rfl,by rw[hf.out];simp⟩,rfl⟩
    | false =>
      have hno2:Hid (∀ j,j < k+1→Jd.badB (xs.getD j [])=false):=Lib.hid (fun j hj=>by
       rcases Nat.lt_or_ge j k with h | h
       · exact hno.out j h
       · obtain rfl:j=k:=by omega
         exact HB.out)
      go_wp2_with fail
      go_round
      case rel=>exact⟨k+1,by omega,by go_num,hno2⟩
      case measure=>simp[intOf];omega
  · have hke:k=n:=by omega
    have hf:=Lib.hid (HM.out (fun j hj=>hno.out j (by omega)));clear hke
    go_wp2_with fail
    go_ret
    exact⟨⟨_,rfl,by rw[hf.out];simp⟩,rfl⟩
set_option maxHeartbeats 400000 in
theorem gg (g cap n:Nat) (xs:List (List UInt8)) (hn:xs.length=n) (w:World) (hc:∀ k,k < n→w.cell? ⟨g,k,none⟩=some (.string ⟨(xs.getD k []).toArray⟩)) (hl:n≤1000000000) (hs:∀ x∈xs,x.length≤1000000000) :
 Calls Tryz.prog 119 #[.slice (some ⟨g,0,none⟩) n cap,.func (.func 121) #[] #[]] w fun e w'=>e=.returned (.bool (xs.any Jd.badB))∧w'=w:=by
 have HI:=Lib.hid (jF g cap n xs hn w hc hl hs)
 obtain⟨r,hr⟩:∃ r,xs.any Jd.badB=r:=⟨_,rfl⟩
 rw[hr] at HI ⊢;clear hc hs hr hn;go_enter Tryz.func119,Tryz.ntmps119
 go_wp2_with fail
 refine HI.out.mono ?_;rintro e w1 ⟨⟨z,rfl,hz⟩,rfl⟩
 go_wp2_with fail
 go_ret
 exact⟨rfl,rfl⟩
theorem ry (s:ByteArray) (w:World) (hM:MaxL w) (hs:s.size≤100000000) :
 Calls Tryz.prog 120 #[.string s,.string ⟨#[46]⟩] w fun e w'=>e=.returned (.slice (some ⟨w.heap.size,0,none⟩) (Jd.pcs 46 s.data.toList).length (Jd.pcs 46 s.data.toList).length)∧w'=w.alloc (.cells (ke (Jd.pcs 46 s.data.toList)).toArray 9):=by
 obtain⟨m,hm⟩:=hM
 have hdata:=Lib.splitB_data ⟨#[46]⟩ 0 (Lib.countB s ⟨#[46]⟩) s;have hall:=Lib.splitB_all ⟨#[46]⟩ (by decide) 0 _ s rfl;have hcl:=Lib.countB_le ⟨#[46]⟩ (by decide) s.size s (Nat.le_refl _);have hsp:Lib.splitK (⟨#[46]⟩:ByteArray).data.toList 0 (Lib.countB s ⟨#[46]⟩) s.data.toList=Jd.pcs 46 s.data.toList:=Jd.split_pcs 46 s.data.toList;rw[hsp] at hdata;have hlen:(Jd.pcs 46 s.data.toList).length=Lib.countB s ⟨#[46]⟩+1:=by rw[← hdata,List.length_map,hall]
 have hcells:(Lib.splitB ⟨#[46]⟩ 0 (Lib.countB s ⟨#[46]⟩) s).map Value.string=ke (Jd.pcs 46 s.data.toList):=by
  rw[← hdata];unfold ke;rw[List.map_map];rfl
 have h:=Tryz.strings_Split s ⟨#[46]⟩ m w (by omega) hm (by decide);rw[hcells] at h;rw[hlen];exact h
theorem q9 (l:List UInt8):(Jd.pcs 46 l).length≤l.length+1:=by
 induction l with
 | nil=>simp[Jd.pcs]
 | cons b l ih =>
   unfold Jd.pcs
   split
   · simp;omega
   · simp;omega
set_option maxHeartbeats 2000000 in
theorem jl (s:ByteArray) (w:World) (hO:Okw w) (hs:s.size≤100000000) :
 Calls Tryz.prog 94 #[.string s] w fun e w'=>e=.returned (bM (Jd.domL s.data.toList))∧Below w.heap.size w w':=by
 have HZ:=Lib.hid (gE (.func (.func 118) #[] #[]) 100 100 rfl Jd.hostL w (pp hO));have HOK:=Lib.hid (fun W (h:Below w.heap.size w W)=>(hO.below h).maxl)
 obtain⟨r,hr⟩:∃ r,Jd.sizedL 100 (Jd.hostL s.data.toList)=r:=⟨_,rfl⟩
 have hdm:Jd.domL s.data.toList=Jd.pieced r:=by unfold Jd.domL;rw[hr]
 have hok:=Jd.sized_ok (m:=100) (r:=Jd.hostL s.data.toList) (a:=r.1);rw[hr] at hok;have HR:=Lib.hid hr;rw[hdm];clear hr hdm hO
 by_cases h0:r.2=0
 · obtain⟨-,hne,hlen⟩:=hok (Prod.ext rfl h0)
   clear hok
   obtain⟨a,ha⟩:∃ a:ByteArray,⟨r.1.toArray⟩=a:=⟨_,rfl⟩
   have hd:a.data.toList=r.1:=by rw[← ha]
   have hasz:a.size≤100:=by rw[Lib.size_eq,hd];exact hlen
   have hV:Hid (bM r=.tuple #[.string a,.int .i64 0]):=by unfold Hid;rw[bT (show r=(r.1,0) from Prod.ext rfl h0),ha];rfl
   have HS:=Lib.hid (fun W (h:MaxL W)=>ry a W h (by omega));have hpc:=q9 r.1;have hpl:=Jd.pcs_len 46 r.1;rw[hd] at HS;have HCF:=Lib.hid (fun (g:Nat) (W:World) (hc:∀ k,k < (Jd.pcs 46 r.1).length→W.cell? ⟨g,k,none⟩=some (.string ⟨((Jd.pcs 46 r.1).getD k []).toArray⟩))=>gg g (Jd.pcs 46 r.1).length _ (Jd.pcs 46 r.1) rfl W hc (by omega) (fun x hx=>by have:=hpl x hx;omega));have HG:=Lib.hid (fun k (h:k < (Jd.pcs 46 r.1).length)=>rz h);have hPV:Hid (bM (Jd.pieced r)=if (Jd.pcs 46 r.1).any Jd.badB then .tuple #[.string ⟨#[]⟩,.int .i64 14] else .tuple #[.string a,.int .i64 0]):=by
    unfold Hid Jd.pieced;rw[if_pos h0];cases (Jd.pcs 46 r.1).any Jd.badB with
    | true=>rfl
    | false=>exact hV.out
   obtain⟨n,hn⟩:∃ n,(Jd.pcs 46 r.1).length=n:=⟨_,rfl⟩
   rw[hn] at HS HCF HG
   obtain⟨b,hb⟩:∃ b,(Jd.pcs 46 r.1).any Jd.badB=b:=⟨_,rfl⟩
   rw[hb] at HCF hPV;have hnb:n≤101:=by omega
   clear h0 hne hlen ha hd hpc hpl hn hb;go_enter Tryz.func94,Tryz.ntmps94
   go_wp2_with fail
   refine HZ.out.mono ?_;rintro e w1 ⟨u,rfl,hk,b1⟩;have B1:=Lib.hid b1
   obtain⟨F,cb,rfl,eg,hk⟩:=hk
   have HK:=hk s w1 (Below.refl _ _) hs;simp only at HK;rw[HR.out,hV.out] at HK;have HKO:=Lib.hid HK;clear hk HK b1
   go_wp2_with fail
   refine HKO.out.mono ?_;rintro e w2 ⟨rfl,b2⟩;have B2:=Lib.hid (B1.out.trans (b2.mono B1.out.size));clear b2
   go_wp2_with fail
   refine(HS.out w2 (HOK.out w2 B2.out)).mono ?_
   rintro e w3 ⟨rfl,hw3⟩;have B3:Hid (Below w.heap.size w w3):=by unfold Hid;rw[hw3];exact B2.out.alloc B2.out.size _
   have HC3:=Lib.hid (HCF.out w2.heap.size w3 (fun k hk=>by
    rw[hw3]
    have:=(Bk.new w2 9 (ke (Jd.pcs 46 r.1)).toArray).cell k
    rw[this];simpa using HG.out k hk))
   clear hw3;cases b with
   | true =>
     rw[if_pos rfl] at hPV
     go_wp2_with fail
     refine HC3.out.mono ?_;rintro e w4 ⟨rfl,rfl⟩
     go_wp2_with fail
     go_ret2
     exact⟨by rw[hPV.out];rfl,B3.out⟩
   | false =>
     rw[if_neg (by simp)] at hPV
     go_wp2_with fail
     refine HC3.out.mono ?_;rintro e w4 ⟨rfl,rfl⟩
     go_wp2_with fail
     go_ret2
     exact⟨by rw[hPV.out];rfl,B3.out⟩
 · have hPV:Jd.pieced r=([],r.2):=by unfold Jd.pieced;rw[if_neg h0]
   rw[bT hPV]
   obtain⟨a,ha⟩:∃ a:ByteArray,⟨r.1.toArray⟩=a:=⟨_,rfl⟩
   obtain⟨n,hn⟩:∃ n:Int,((r.2:Nat):Int)=n:=⟨_,rfl⟩
   have hV:Hid (bM r=.tuple #[.string a,.int .i64 n]):=by unfold Hid bM;rw[ha,hn]
   have hn0:n≠0:=by omega
   have hnB:(n != 0)=true:=by simpa using hn0
   rw[hn];clear hok hPV h0 ha hn;go_enter Tryz.func94,Tryz.ntmps94
   go_wp2_with fail
   refine HZ.out.mono ?_;rintro e w1 ⟨u,rfl,hk,b1⟩;have B1:=Lib.hid b1
   obtain⟨F,cb,rfl,eg,hk⟩:=hk
   have HK:=hk s w1 (Below.refl _ _) hs;simp only at HK;rw[HR.out,hV.out] at HK;have HKO:=Lib.hid HK;clear hk HK b1
   go_wp2_with fail
   refine HKO.out.mono ?_;rintro e w2 ⟨rfl,b2⟩;have B2:=Lib.hid (B1.out.trans (b2.mono B1.out.size));clear b2
   go_wp2_with fail
   go_ret2
   exact⟨rfl,B2.out⟩
theorem lp {w:World} (hO:Okw w):ej w (.func (.func 94) #[] #[]) Jd.domL :=
 gi _ _ hO (Go.Proofs.enters_of Tryz.func94 (by kernel_rfl) rfl) fun s W hW hs=>jl s W hW hs
end Go.Proofs.YtbgaglcgennhiaaGreatDoor
end
section
namespace Go.Proofs.YtbgaglcgennhiaaGreatDoor
open Go.RowKit Rg Tx
abbrev aR (l:List UInt8):ByteArray:=⟨l.toArray⟩
abbrev sf:=Jd.J × Nat
def nj (s:sf):Array Value:=#[.string (aR s.1.1),.string (aR s.1.2.1),.string (aR s.1.2.2),.int .i64 (s.2:Nat)]
def nL:Nat→Jd.J→List UInt8→Jd.J
 | 0,j,x=>(x,j.2.1,j.2.2)
 | 1,j,x=>(j.1,x,j.2.2)
 | _,j,x=>(j.1,j.2.1,x)
def al (k:Nat) (s:sf) (r:List UInt8 × Nat):sf:=if s.2≠0 then s else if r.2≠0 then (Jd.none_,r.2) else (nL k s.1 r.1,0)
def GB (w:World) (g:Nat) (s:sf):Prop:=Bk w g 172 (nj s)
def uU (v:Value) (k:Nat):Prop:=∃ F,v=.func (.func F) #[] #[]∧(∀ args W,(callFunc F args).run Tryz.prog W=.ok (.enter F args) W) ∧
 ∀ (g:Nat) (s:sf) (x:ByteArray) (W:World),GB W g s→Calls Tryz.prog F #[.pointer (some ⟨g,0,none⟩),.string x] W fun e w'=>e=.returned (.tuple #[])∧w'=W.setCell ⟨g,k,none⟩ (.string x)
set_option maxHeartbeats 400000 in
theorem tG:uU (.func (.func 184) #[] #[]) 1:=by
 refine⟨_,rfl,Go.Proofs.enters_of Tryz.func184 (by kernel_rfl) rfl,fun g s x W h=>?_⟩
 have c0:W.cell? ⟨g,1,none⟩=some (.string (aR s.1.2.1)):=h.cell 1;have f0:=h.free 1;clear h;go_enter Tryz.func184,Tryz.ntmps184
 go_wp2_with fail
 go_end0
 exact⟨rfl,rfl⟩
set_option maxHeartbeats 400000 in
theorem tR:uU (.func (.func 185) #[] #[]) 0:=by
 refine⟨_,rfl,Go.Proofs.enters_of Tryz.func185 (by kernel_rfl) rfl,fun g s x W h=>?_⟩
 have c0:W.cell? ⟨g,0,none⟩=some (.string (aR s.1.1)):=h.cell 0;have f0:=h.free 0;clear h;go_enter Tryz.func185,Tryz.ntmps185
 go_wp2_with fail
 go_end0
 exact⟨rfl,rfl⟩
set_option maxHeartbeats 400000 in
theorem sU:uU (.func (.func 187) #[] #[]) 2:=by
 refine⟨_,rfl,Go.Proofs.enters_of Tryz.func187 (by kernel_rfl) rfl,fun g s x W h=>?_⟩
 have c0:W.cell? ⟨g,2,none⟩=some (.string (aR s.1.2.2)):=h.cell 2;have f0:=h.free 2;clear h;go_enter Tryz.func187,Tryz.ntmps187
 go_wp2_with fail
 go_end0
 exact⟨rfl,rfl⟩
theorem GB.put {w:World} {g k:Nat} {s:sf} (h:GB w g s) (hk:k=0∨k=1∨k=2) (h0:s.2=0) (x:List UInt8):GB (w.setCell ⟨g,k,none⟩ (.string (aR x))) g (nL k s.1 x,0):=by
 have h1:=Bk.put h k (.string (aR x));unfold GB;have e:(nj s).setIfInBounds k (.string (aR x))=nj (nL k s.1 x,0):=by
  unfold nj;rw[h0];rcases hk with rfl | rfl | rfl<;>rfl
 rw[e] at h1;exact h1
set_option maxHeartbeats 2000000 in
theorem lI (g k:Nat) (s:sf) (p:ByteArray) (kv pv:Value) (f:List UInt8→List UInt8 × Nat) (w:World) (hk:k=0∨k=1∨k=2) (hg:GB w g s) (hK:ej w kv f) (hP:uU pv k) (hp:p.size≤100000000) :
 Calls Tryz.prog 183 #[.pointer (some ⟨g,0,none⟩),.string p,kv,pv] w fun e w'=>e=.returned (.tuple #[])∧GB w' g (al k s (f p.data.toList))∧Below g w w':=by
 have hgl:=hg.lt
 obtain⟨F,cb,rfl,eg,hK⟩:=hK
 obtain⟨P,rfl,eP,hP⟩:=hP
 have HG:=Lib.hid hg;have HK:=Lib.hid (hK p w (Below.refl _ _) hp);have HP:=Lib.hid hP;have c3:w.cell? ⟨g,3,none⟩=some (.int .i64 (s.2:Nat)):=hg.cell 3
 obtain⟨r,hr⟩:∃ r,f p.data.toList=r:=⟨_,rfl⟩
 rw[hr] at HK ⊢;clear hK hP hr hg
 by_cases h0:s.2=0
 · rw[h0] at c3
   by_cases h1:r.2=0
   · have e1:al k s r=(nL k s.1 r.1,0):=by unfold al;rw[if_neg (by simpa using h0),if_neg (by simpa using h1)]
     rw[e1]
     obtain⟨a,ha⟩:∃ a:ByteArray,aR r.1=a:=⟨_,rfl⟩
     have hV:bM r=.tuple #[.string a,.int .i64 0]:=by rw[bT (show r=(r.1,0) from Prod.ext rfl h1),← ha];rfl
     rw[hV] at HK;have HA:=Lib.hid ha;have H0:=Lib.hid h0;clear hV ha e1 h1 h0;go_enter Tryz.func183,Tryz.ntmps183
     go_wp2_with fail
     refine HK.out.mono ?_;rintro e w1 ⟨rfl,b1⟩;have B1:=Lib.hid b1;have G1:Hid (GB w1 g s):=Bk.below HG.out b1 hgl;clear b1
     go_wp2_with fail
     refine(HP.out g s a w1 G1.out).mono ?_
     rintro e w2 ⟨rfl,hw2⟩;have G2:Hid (GB w2 g (nL k s.1 r.1,0)):=by
      unfold Hid;rw[hw2,← HA.out];exact G1.out.put hk H0.out r.1
     have B2:Hid (Below g w w2):=by
      unfold Hid;rw[hw2];exact Below.setCell (B:=g) (p:=⟨g,k,none⟩) (B1.out.mono (by omega)) (Nat.le_refl g) _
     clear hw2
     go_wp2_with fail
     go_end0
     exact⟨rfl,G2.out,B2.out⟩
   · have e1:al k s r=(Jd.none_,r.2):=by unfold al;rw[if_neg (by simpa using h0),if_pos h1]
     rw[e1]
     obtain⟨a,ha⟩:∃ a:ByteArray,⟨r.1.toArray⟩=a:=⟨_,rfl⟩
     obtain⟨n,hn⟩:∃ n:Int,((r.2:Nat):Int)=n:=⟨_,rfl⟩
     have hV:bM r=.tuple #[.string a,.int .i64 n]:=by unfold bM;rw[ha,hn]
     rw[hV] at HK;have hn0:n≠0:=by omega
     have hnB:(n != 0)=true:=by simpa using hn0
     have HN:=Lib.hid hn;clear hV ha e1 h1 h0 hn;go_enter Tryz.func183,Tryz.ntmps183
     go_wp2_with fail
     refine HK.out.mono ?_;rintro e w1 ⟨rfl,b1⟩;have B1:=Lib.hid b1;have G1:Hid (GB w1 g s):=Bk.below HG.out b1 hgl;have d0:w1.cell? ⟨g,0,none⟩=some (.string (aR s.1.1)):=G1.out.cell 0;have d1:w1.cell? ⟨g,1,none⟩=some (.string (aR s.1.2.1)):=G1.out.cell 1;have d2:w1.cell? ⟨g,2,none⟩=some (.string (aR s.1.2.2)):=G1.out.cell 2;have d3:w1.cell? ⟨g,3,none⟩=some (.int .i64 (s.2:Nat)):=G1.out.cell 3;have f0:w1.frozen? ⟨g,0,none⟩=false:=Bk.free G1.out 0;have f1:w1.frozen? ⟨g,1,none⟩=false:=Bk.free G1.out 1;have f2:w1.frozen? ⟨g,2,none⟩=false:=Bk.free G1.out 2;have f3:w1.frozen? ⟨g,3,none⟩=false:=Bk.free G1.out 3;clear b1
     go_wp2_with fail
     refine bodyPost_ret (results_none rfl _ _ _) rfl ?_
     refine⟨rfl,?_,?_⟩
     · have h:=((((show Bk w1 g 172 (nj s) from G1.out).put 0 (.string ⟨#[]⟩)).put 1 (.string ⟨#[]⟩)).put 2 (.string ⟨#[]⟩)).put 3 (.int .i64 n)
       have e:(((((nj s).setIfInBounds 0 (.string ⟨#[]⟩)).setIfInBounds 1 (.string ⟨#[]⟩)).setIfInBounds 2 (.string ⟨#[]⟩)).setIfInBounds 3 (.int .i64 n))=nj (Jd.none_,r.2):=by
        unfold nj;rw[HN.out];rfl
       rw[e] at h;exact h
     · exact(((Below.setCell (B:=g) (p:=⟨g,0,none⟩) (B1.out.mono (by omega)) (Nat.le_refl g) _).setCell (p:=⟨g,1,none⟩) (Nat.le_refl _) _).setCell (p:=⟨g,2,none⟩) (Nat.le_refl _) _).setCell (p:=⟨g,3,none⟩) (Nat.le_refl _) _
 · have e1:al k s r=s:=by unfold al;rw[if_pos h0]
   rw[e1]
   obtain⟨n,hn⟩:∃ n:Int,((s.2:Nat):Int)=n:=⟨_,rfl⟩
   rw[hn] at c3;have hn0:n≠0:=by omega
   have hnB:(n != 0)=true:=by simpa using hn0
   clear e1 h0 hn HK HP;go_enter Tryz.func183,Tryz.ntmps183
   go_wp2_with fail
   refine bodyPost_ret (results_none rfl _ _ _) rfl ?_
   exact⟨rfl,HG.out,Below.refl _ _⟩
end Go.Proofs.YtbgaglcgennhiaaGreatDoor
end

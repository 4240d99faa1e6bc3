import Derived.Test.YtfbdnaclkfmiaaaGreatDoorB26
section
namespace Go.Proofs.YtfbdnaclkfmiaaaGreatDoor
open Go.RowKit Vc
theorem upper_any (s:ByteArray) (w:World) (hs:s.size≤1000000000) (hw:∀ c∈s.data.toList,wc c=true) :
    Calls Tryz.prog 263 #[.string s] w fun e w'=>e=.returned (.string (bts (up s.data.toList)))∧Below w.heap.size w w':=by
  have H:=Tryz.strings_ToUpper_ascii s w (by omega) (fun j b hb=>by
    have h:=hw b (List.mem_of_getElem? hb)
    have key:∀ x:Fin 256,wc (UInt8.ofNat x.val)=true→(UInt8.ofNat x.val).toNat < 128:=by decide +kernel
    have:=key ⟨b.toNat,UInt8.toNat_lt b⟩
    rw[toNat_to] at this
    exact this h)
  rw[upper_up] at H
  exact H
theorem while_wc (l:List UInt8):∀ c∈l.takeWhile wc,wc c=true:=fun c hc=>List.all_eq_true.1 List.all_takeWhile c hc
theorem bts_ne {l:List UInt8} (h:l≠[]):(bts l).toList.isEmpty=false:=by
  rw[ByteArray.toList_mk]
  cases l with
  | nil=>exact absurd rfl h
  | cons c t=>rfl
theorem bts_nil:(bts []).toList.isEmpty=true:=by
  rw[ByteArray.toList_mk]
  rfl
def ParV (l:List UInt8) (e:Ending):Prop:=∃ (a:Par) (m:List UInt8),e=.returned (.tuple #[.agg #[.string (bts a.1),.string (bts a.2)],.string (bts m),.bool (parL l).isSome])∧∀ x,parL l=some x→x=(a,m)
theorem ParV.no {l:List UInt8} (h:parL l=none) (a1 a2 m:ByteArray):ParV l (.returned (.tuple #[.agg #[.string a1,.string a2],.string m,.bool false])) :=
  ⟨(a1.data.toList,a2.data.toList),m.data.toList,by rw[h];rfl,fun x hx=>by rw[h] at hx;cases hx⟩
theorem ParV.yes {l:List UInt8} {a:Par} {m:List UInt8} (h:parL l=some (a,m)):ParV l (.returned (.tuple #[.agg #[.string (bts a.1),.string (bts a.2)],.string (bts m),.bool true])) :=
  ⟨a,m,by rw[h];rfl,fun x hx=>by rw[h] at hx;exact(Option.some.inj hx).symm⟩
theorem par_word {l:List UInt8} (h:l.takeWhile wc=[]):parL l=none:=by unfold parL;rw[if_pos h]
theorem par_eq {l:List UInt8} (h:(l.dropWhile wc).head?≠some 61):parL l=none:=by
  unfold parL
  split
  · rfl
  · split
    · rename_i r e;rw[e] at h;exact absurd rfl h
    · rfl
theorem par_val {l r:List UInt8} (h:l.takeWhile wc≠[]) (h2:l.dropWhile wc=61::r):parL l=(pvalL r).map fun v=>((up (l.takeWhile wc),v.1),v.2):=by
  unfold parL
  rw[if_neg h,h2]
  rfl
theorem two_of {w:World} {g:Nat} {t:TypeId} {cs:Array Value} (h:Bk w g t cs) (hc:∃ a b,cs=#[a,b]) (u v:Value):Bk ((w.setCell ⟨g,0,none⟩ u).setCell ⟨g,1,none⟩ v) g t #[u,v]:=by
  obtain⟨a,b,rfl⟩:=hc
  exact h.two u v
theorem below_two {B g:Nat} {w0 w:World} (h:Below B w0 w) (hg:B≤g) (u v:Value):Below B w0 ((w.setCell ⟨g,0,none⟩ u).setCell ⟨g,1,none⟩ v):=(h.setCell (p:=⟨g,0,none⟩) hg u).setCell (p:=⟨g,1,none⟩) hg v
set_option maxHeartbeats 2000000 in
set_option maxRecDepth 100000 in
theorem parameter_any (s:ByteArray) (w:World) (hM:MaxL w) (hs:s.size≤1000000000) :
    Calls Tryz.prog 280 #[.string s] w fun e w'=>ParV s.data.toList e∧Below w.heap.size w w':=by
  obtain⟨l,hl⟩:∃ l,s.data.toList=l:=⟨_,rfl⟩
  have hsz:=Lib.size_eq s
  rw[hl] at hsz
  have tl:=take_le wc l
  have dl:=drop_le wc l
  have HW:Hid (∀ W:World,Calls Tryz.prog 279 #[.string s] W fun e w'=>e=.returned (.tuple #[.string (bts (l.takeWhile wc)),.string (bts (l.dropWhile wc))])∧Below W.heap.size W w'):=fun W=>by
    have:=word_any s W hs
    rwa [hl] at this
  have HU:=Lib.hid (fun (W:World)=>upper_any (bts (l.takeWhile wc)) W (by rw[bts_size];omega) (while_wc l))
  have HM:=Lib.hid hM
  obtain⟨a,ha⟩:∃ a,bts (l.takeWhile wc)=a:=⟨_,rfl⟩
  obtain⟨b,hb⟩:∃ b,bts (l.dropWhile wc)=b:=⟨_,rfl⟩
  have HA:=Lib.hid ha
  have HB:=Lib.hid hb
  rw[ha] at HW HU
  rw[hb] at HW
  have hal:a.data.toList=l.takeWhile wc:=by rw[← ha]
  have hbl:b.data.toList=l.dropWhile wc:=by rw[← hb]
  rw[hal] at HU
  have hbs:b.size≤1000000000:=by rw[← hb,bts_size];omega
  rw[hl]
  have HAL:=Lib.hid hal
  have HBL:=Lib.hid hbl
  clear hM ha hb hal hbl tl dl hsz hl
  by_cases h61:(l.dropWhile wc).head?=some 61
  case' neg =>
    have HP:=Lib.hid (par_eq h61)
    have HC:Hid (∀ W:World,Calls Tryz.prog 262 #[.string b,.string ⟨#[61]⟩] W fun e w'=>e=.returned (.tuple #[.string b,.bool false])∧w'=W):=fun W=>cutp1_no 61 b W (by rw[HBL.out];exact h61)
    clear h61
    go_enter Tryz.func280,Tryz.ntmps280
    go_wp2_with fail
    refine(HW.out _).mono ?_
    rintro e w1 ⟨rfl,b1⟩
    have K1:=Lib.hid ((Bk.new w 48 #[.string ⟨#[]⟩,.string ⟨#[]⟩]).below b1 (Bk.new _ _ _).lt)
    have B1:Hid (Below w.heap.size w w1):=((Below.refl _ w).alloc (Nat.le_refl _) _).trans (b1.mono (by simp))
    obtain⟨v0,d0⟩:∃ v,w1.cell? ⟨w.heap.size,0,none⟩=some v:=⟨_,K1.out.cell 0⟩
    obtain⟨v1,d1⟩:∃ v,w1.cell? ⟨w.heap.size,1,none⟩=some v:=⟨_,K1.out.cell 1⟩
    have f0:w1.frozen? ⟨w.heap.size,0,none⟩=false:=K1.out.free 0
    have f1:w1.frozen? ⟨w.heap.size,1,none⟩=false:=K1.out.free 1
    clear b1
    go_wp2_with fail
    refine(HC.out _).mono ?_
    rintro e w2 ⟨rfl,rfl⟩
    go_wp2_with fail
    have KF:=two_of K1.out ⟨_,_,rfl⟩ (.string ⟨#[]⟩) (.string ⟨#[]⟩)
    have q0:World.cell? ((w2.setCell ⟨w.heap.size,0,none⟩ (.string ⟨#[]⟩)).setCell ⟨w.heap.size,1,none⟩ (.string ⟨#[]⟩)) ⟨w.heap.size,0,none⟩=some (.string ⟨#[]⟩):=KF.cell 0
    have q1:World.cell? ((w2.setCell ⟨w.heap.size,0,none⟩ (.string ⟨#[]⟩)).setCell ⟨w.heap.size,1,none⟩ (.string ⟨#[]⟩)) ⟨w.heap.size,1,none⟩=some (.string ⟨#[]⟩):=KF.cell 1
    refine bodyPost_ret (v:=.tuple #[.agg #[.string ⟨#[]⟩,.string ⟨#[]⟩],.string ⟨#[]⟩,.bool false]) (by simp[results,Tryz.results280,go_sem,q0,q1]) rfl ⟨ParV.no HP.out _ _ _,below_two B1.out (Nat.le_refl _) _ _⟩
  obtain⟨r,hr⟩:∃ r,l.dropWhile wc=61::r:=by
    cases hd:l.dropWhile wc with
    | nil=>rw[hd] at h61;cases h61
    | cons x t=>rw[hd] at h61;exact⟨t,by rw[show x=61 by simpa using h61]⟩
  have HC:=Lib.hid (fun (W:World)=>cutp1_yes 61 b r W (by rw[HBL.out];exact hr))
  have HR:=Lib.hid hr
  have hrs:(bts r).size≤1000000000:=by
    have h1:=Lib.size_eq b
    rw[HBL.out,hr] at h1
    rw[bts_size]
    simp only[List.length_cons] at h1
    omega
  clear h61 hr
  by_cases h0:l.takeWhile wc=[]
  · have HP:=Lib.hid (par_word h0)
    have ga:a.toList.isEmpty=true:=by rw[← HA.out,h0];exact bts_nil
    clear h0
    go_enter Tryz.func280,Tryz.ntmps280
    go_wp2_with fail
    refine(HW.out _).mono ?_
    rintro e w1 ⟨rfl,b1⟩
    have K1:=Lib.hid ((Bk.new w 48 #[.string ⟨#[]⟩,.string ⟨#[]⟩]).below b1 (Bk.new _ _ _).lt)
    have B1:Hid (Below w.heap.size w w1):=((Below.refl _ w).alloc (Nat.le_refl _) _).trans (b1.mono (by simp))
    obtain⟨v0,d0⟩:∃ v,w1.cell? ⟨w.heap.size,0,none⟩=some v:=⟨_,K1.out.cell 0⟩
    obtain⟨v1,d1⟩:∃ v,w1.cell? ⟨w.heap.size,1,none⟩=some v:=⟨_,K1.out.cell 1⟩
    have f0:w1.frozen? ⟨w.heap.size,0,none⟩=false:=K1.out.free 0
    have f1:w1.frozen? ⟨w.heap.size,1,none⟩=false:=K1.out.free 1
    clear b1
    go_wp2_with fail
    refine(HC.out _).mono ?_
    rintro e w2 ⟨rfl,rfl⟩
    go_wp2_with fail
    have KF:=two_of K1.out ⟨_,_,rfl⟩ (.string ⟨#[]⟩) (.string ⟨#[]⟩)
    have q0:World.cell? ((w2.setCell ⟨w.heap.size,0,none⟩ (.string ⟨#[]⟩)).setCell ⟨w.heap.size,1,none⟩ (.string ⟨#[]⟩)) ⟨w.heap.size,0,none⟩=some (.string ⟨#[]⟩):=KF.cell 0
    have q1:World.cell? ((w2.setCell ⟨w.heap.size,0,none⟩ (.string ⟨#[]⟩)).setCell ⟨w.heap.size,1,none⟩ (.string ⟨#[]⟩)) ⟨w.heap.size,1,none⟩=some (.string ⟨#[]⟩):=KF.cell 1
    refine bodyPost_ret (v:=.tuple #[.agg #[.string ⟨#[]⟩,.string ⟨#[]⟩],.string ⟨#[]⟩,.bool false]) (by simp[results,Tryz.results280,go_sem,q0,q1]) rfl ⟨ParV.no HP.out _ _ _,below_two B1.out (Nat.le_refl _) _ _⟩
  · have HP:=Lib.hid (par_val h0 HR.out)
    have ga:a.toList.isEmpty=false:=by rw[← HA.out];exact bts_ne h0
    have HF:=Lib.hid (fun (W:World) (h:Below w.heap.size w W)=>firstValue_any (bts r) W (HM.out.below h) hrs)
    obtain⟨rb,hrb⟩:∃ rb,bts r=rb:=⟨_,rfl⟩
    have HRB:Hid (rb.data.toList=r):=by rw[← hrb];rfl
    rw[hrb] at HF HC hrs
    clear h0 hrb
    go_enter Tryz.func280,Tryz.ntmps280
    go_wp2_with fail
    refine(HW.out _).mono ?_
    rintro e w1 ⟨rfl,b1⟩
    have K1:=Lib.hid ((Bk.new w 48 #[.string ⟨#[]⟩,.string ⟨#[]⟩]).below b1 (Bk.new _ _ _).lt)
    have B1:Hid (Below w.heap.size w w1):=((Below.refl _ w).alloc (Nat.le_refl _) _).trans (b1.mono (by simp))
    clear b1
    go_wp2_with fail
    refine(HC.out _).mono ?_
    rintro e w2 ⟨rfl,rfl⟩
    go_wp2_with fail
    refine(HF.out _ B1.out).mono ?_
    rintro e w3 ⟨⟨v,m,rfl,hv⟩,b3⟩
    rw[HRB.out] at hv
    have HV:=Lib.hid hv
    obtain⟨ok,hok⟩:∃ ok,(pvalL rb.data.toList).isSome=ok:=⟨_,rfl⟩
    have hok2:=hok
    rw[HRB.out] at hok2
    have HOK:=Lib.hid hok2
    obtain⟨vb,hvb⟩:∃ vb,bts v=vb:=⟨_,rfl⟩
    obtain⟨mb,hmb⟩:∃ mb,bts m=mb:=⟨_,rfl⟩
    have HVB:=Lib.hid hvb
    have HMB:=Lib.hid hmb
    rw[hok,hvb,hmb]
    have B3:Hid (Below w.heap.size w w3):=B1.out.trans (b3.mono B1.out.size)
    have K3:=Lib.hid (K1.out.below b3 K1.out.lt)
    clear hv hok hok2 hvb hmb b3
    go_wp2_with fail
    refine(HU.out _).mono ?_
    rintro e w4 ⟨rfl,b4⟩
    have B4:Hid (Below w.heap.size w w4):=B3.out.trans (b4.mono B3.out.size)
    have K4:=Lib.hid (K3.out.below b4 K3.out.lt)
    obtain⟨ub,hub⟩:∃ ub,bts (up (l.takeWhile wc))=ub:=⟨_,rfl⟩
    have HUB:=Lib.hid hub
    rw[hub]
    clear hub b4
    obtain⟨v0,d0⟩:∃ v,w4.cell? ⟨w.heap.size,0,none⟩=some v:=⟨_,K4.out.cell 0⟩
    obtain⟨v1,d1⟩:∃ v,w4.cell? ⟨w.heap.size,1,none⟩=some v:=⟨_,K4.out.cell 1⟩
    have f0:w4.frozen? ⟨w.heap.size,0,none⟩=false:=K4.out.free 0
    have f1:w4.frozen? ⟨w.heap.size,1,none⟩=false:=K4.out.free 1
    go_wp2_with fail
    have KF:=two_of K4.out ⟨_,_,rfl⟩ (.string ub) (.string vb)
    have q0:World.cell? ((w4.setCell ⟨w.heap.size,0,none⟩ (.string ub)).setCell ⟨w.heap.size,1,none⟩ (.string vb)) ⟨w.heap.size,0,none⟩=some (.string ub):=KF.cell 0
    have q1:World.cell? ((w4.setCell ⟨w.heap.size,0,none⟩ (.string ub)).setCell ⟨w.heap.size,1,none⟩ (.string vb)) ⟨w.heap.size,1,none⟩=some (.string vb):=KF.cell 1
    refine bodyPost_ret (v:=.tuple #[.agg #[.string ub,.string vb],.string mb,.bool ok]) (by simp[results,Tryz.results280,go_sem,q0,q1]) rfl ⟨?_,below_two B4.out (Nat.le_refl _) _ _⟩
    cases hp:pvalL r with
    | none =>
      have hoke:ok=false:=by rw[← HOK.out,hp];rfl
      subst hoke
      exact ParV.no (by rw[HP.out,hp];rfl) _ _ _
    | some x =>
      have hx:=HV.out x hp
      subst hx
      have hoke:ok=true:=by rw[← HOK.out,hp];rfl
      subst hoke
      rw[← HUB.out,← HVB.out,← HMB.out]
      exact ParV.yes (a:=(up (l.takeWhile wc),v)) (by rw[HP.out,hp];rfl)
end Go.Proofs.YtfbdnaclkfmiaaaGreatDoor
end
section
namespace Go.Proofs.YtfbdnaclkfmiaaaGreatDoor
open Go.RowKit Vc
set_option maxHeartbeats 2000000 in
set_option maxRecDepth 100000 in
theorem names_any (s:ByteArray) (w:World) (hs:s.size≤1000000000) :
    Calls Tryz.prog 260 #[.string s] w fun e w'=>e=.returned (.tuple #[.string (bts (namesL s.data.toList).1),.string (bts (namesL s.data.toList).2.1),.string (bts (namesL s.data.toList).2.2)])∧Below w.heap.size w w':=by
  obtain⟨l,hl⟩:∃ l,s.data.toList=l:=⟨_,rfl⟩
  have hsz:=Lib.size_eq s
  rw[hl] at hsz
  have hls:l.length≤1000000000:=by omega
  have HW:Hid (∀ W:World,Calls Tryz.prog 279 #[.string s] W fun e w'=>e=.returned (.tuple #[.string (bts (l.takeWhile wc)),.string (bts (l.dropWhile wc))])∧Below W.heap.size W w'):=fun W=>by
    have:=word_any s W hs
    rwa [hl] at this
  rw[hl]
  obtain⟨a,ha⟩:∃ a,bts (l.takeWhile wc)=a:=⟨_,rfl⟩
  obtain⟨b,hb⟩:∃ b,bts (l.dropWhile wc)=b:=⟨_,rfl⟩
  have HA:=Lib.hid ha
  have HB:=Lib.hid hb
  rw[ha,hb] at HW
  have hbl:b.data.toList=l.dropWhile wc:=by rw[← hb]
  have HBL:=Lib.hid hbl
  clear ha hb hbl hsz hl
  by_cases h46:(l.dropWhile wc).head?=some 46
  · obtain⟨m,hm⟩:∃ m,l.dropWhile wc=46::m:=by
      cases hd:l.dropWhile wc with
      | nil=>rw[hd] at h46;cases h46
      | cons x t=>rw[hd] at h46;exact⟨t,by rw[show x=46 by simpa using h46]⟩
    have HC:=Lib.hid (fun (W:World)=>cutp1_yes 46 b m W (by rw[HBL.out];exact hm))
    by_cases h0:l.takeWhile wc=[]
    · have HN:=Lib.hid (names_none (.inl h0))
      have ga:a.toList.isEmpty=true:=by rw[← HA.out,h0];exact bts_nil
      clear h0 hm h46
      go_enter Tryz.func260,Tryz.ntmps260
      go_wp2_with fail
      refine(HW.out _).mono ?_
      rintro e w1 ⟨rfl,b1⟩
      go_wp2_with fail
      refine(HC.out _).mono ?_
      rintro e w2 ⟨rfl,rfl⟩
      go_wp2_with fail
      go_ret3
      rw[HN.out]
      exact⟨by rw[HA.out,HB.out];rfl,b1⟩
    · have HN:=Lib.hid (names_some h0 hm)
      have ga:a.toList.isEmpty=false:=by rw[← HA.out];exact bts_ne h0
      have hms:(bts m).size≤1000000000:=by
        have h3:=drop_le wc l
        have h4:=congrArg List.length hm
        rw[bts_size]
        simp only[List.length_cons] at h4
        omega
      have HW2:=Lib.hid (fun (W:World)=>word_any (bts m) W hms)
      clear h0 hm h46
      go_enter Tryz.func260,Tryz.ntmps260
      go_wp2_with fail
      refine(HW.out _).mono ?_
      rintro e w1 ⟨rfl,b1⟩
      go_wp2_with fail
      refine(HC.out _).mono ?_
      rintro e w2 ⟨rfl,rfl⟩
      go_wp2_with fail
      refine(HW2.out _).mono ?_
      rintro e w3 ⟨rfl,b3⟩
      go_wp2_with fail
      go_ret3
      rw[HN.out]
      exact⟨by rw[HA.out];rfl,b1.trans (b3.mono b1.size)⟩
  · have HC:Hid (∀ W:World,Calls Tryz.prog 262 #[.string b,.string ⟨#[46]⟩] W fun e w'=>e=.returned (.tuple #[.string b,.bool false])∧w'=W):=fun W=>cutp1_no 46 b W (by rw[HBL.out];exact h46)
    have HN:=Lib.hid (names_none (.inr h46))
    obtain⟨ea,hea⟩:∃ ea,a.toList.isEmpty=ea:=⟨_,rfl⟩
    clear h46
    go_enter Tryz.func260,Tryz.ntmps260
    go_wp2_with fail
    refine(HW.out _).mono ?_
    rintro e w1 ⟨rfl,b1⟩
    go_wp2_with fail
    refine(HC.out _).mono ?_
    rintro e w2 ⟨rfl,rfl⟩
    cases ea
    all_goals
      go_wp2_with fail
      go_ret3
      rw[HN.out]
      exact⟨by rw[HA.out,HB.out];rfl,b1⟩
def ParsV (B:Nat) (l:List UInt8) (e:Ending) (w':World):Prop :=
  (∃ (v:Value) (ps:List Par) (t:List UInt8),e=.returned (.tuple #[v,.string (bts t),.bool true])∧parsF (l.length+1) [] l=some (ps,t)∧OwnA B w' v ps∧t.length≤l.length∧ps.length≤l.length)∨(e=.returned (.tuple #[.slice none 0 0,.string ⟨#[]⟩,.bool false])∧parsF (l.length+1) [] l=none)
def strLenV:Value→Nat
  | .string t=>t.size
  | _=>0
set_option maxHeartbeats 2000000 in
set_option maxRecDepth 100000 in
theorem parameters_any (s:ByteArray) (w:World) (hM:MaxL w) (hs:s.size≤1000000000) :
    Calls Tryz.prog 261 #[.string s] w fun e w'=>ParsV w.heap.size s.data.toList e w'∧Below w.heap.size w w':=by
  obtain⟨l,hl⟩:∃ l,s.data.toList=l:=⟨_,rfl⟩
  have hsz:=Lib.size_eq s
  rw[hl] at hsz ⊢
  have hsl:s=bts l:=bts_of hl
  have HM:=Lib.hid hM
  have hll:l.length≤1000000000:=by omega
  obtain⟨B,hB⟩:∃ B,w.heap.size=B:=⟨_,rfl⟩
  rw[hB]
  have HBZ:=Lib.hid hB
  subst hsl
  clear hM hB hsz hl hs
  have HP0:Hid (PStandV l [] l):=PStandV.start l
  have HO0:Hid (OwnA B w (.slice none 0 0) []):=OwnA.nil _ _
  have HB0:Hid (Below B w w):=Below.refl _ _
  go_enter Tryz.func261,Tryz.ntmps261
  go_wp2_with fail
  go_loopw [0,5] (fun sv lv wr=>∃ (t:List UInt8) (ps:List Par) (sb:ByteArray) (v:Value),sv=.string sb∧lv=v∧Hid (bts t=sb)∧Hid (PStandV l ps t)∧Hid (OwnA B wr v ps)∧Hid (Below B w wr)) (fun sv _ _=>strLenV sv)
  case atStart=>exact⟨l,[],_,_,rfl,rfl,Lib.hid rfl,HP0,HO0,HB0⟩
  case round =>
    obtain⟨t,ps,sb,lv,rfl,hlv,HSB,HPS,HO,HBW⟩:=hrel
    have hlv2:=hlv.symm
    subst hlv2
    have hsbl:sb.data.toList=t:=by rw[← HSB.out]
    by_cases h59:t.head?=some 59
    · obtain⟨r,rfl⟩:∃ r,t=59::r:=by
        cases t with
        | nil=>cases h59
        | cons x t=>exact⟨t,by rw[show x=59 by simpa using h59]⟩
      have HC:=Lib.hid (cutp1_yes 59 sb r wr hsbl)
      have hrl:(bts r).size≤1000000000:=by
        have:=HPS.out.1
        rw[bts_size]
        simp only[List.length_cons] at this
        omega
      have HQ:=Lib.hid (parameter_any (bts r) wr (HM.out.below (HBZ.out ▸ HBW.out)) hrl)
      have HSZ:Hid (sb.size=r.length+1):=by unfold Hid;rw[Lib.size_eq,hsbl];rfl
      have hpl:ps.length≤1000000000:=by have:=HPS.out.2.2;omega
      have HBR:Hid (B≤wr.heap.size):=by rw[← HBZ.out];exact HBW.out.size
      clear h59 hsbl
      go_wp2_with fail
      refine HC.out.mono ?_
      rintro e w1 ⟨rfl,rfl⟩
      go_wp2_with fail
      refine HQ.out.mono ?_
      rintro e w2 ⟨⟨a,m,rfl,hv⟩,b2⟩
      have HV:Hid (∀ x,parL r=some x→x=(a,m)):=hv
      obtain⟨ok,hok⟩:∃ ok,(parL (bts r).data.toList).isSome=ok:=⟨_,rfl⟩
      have HOK:Hid ((parL r).isSome=ok):=hok
      obtain⟨n1,hn1⟩:∃ n1,bts a.1=n1:=⟨_,rfl⟩
      obtain⟨n2,hn2⟩:∃ n2,bts a.2=n2:=⟨_,rfl⟩
      obtain⟨mb,hmb⟩:∃ mb,bts m=mb:=⟨_,rfl⟩
      have HN1:=Lib.hid hn1
      have HN2:=Lib.hid hn2
      have HMB:=Lib.hid hmb
      have O2:=Lib.hid (HO.out.below b2)
      have B2:Hid (Below B w w2):=HBW.out.trans (b2.mono HBR.out)
      have Z2:Hid (B≤w2.heap.size):=Nat.le_trans HBR.out b2.size
      rw[hok,hn1,hn2,hmb]
      clear hok hn1 hn2 hmb hv b2
      cases hpr:parL r with
      | none =>
        have hoke:ok=false:=by rw[← HOK.out,hpr];rfl
        subst hoke
        have HE:=Lib.hid (HPS.out.bad hpr)
        clear hpr
        go_wp2_with fail
        go_ret3
        exact⟨.inr ⟨rfl,HE.out⟩,(B2.out.alloc Z2.out _)⟩
      | some x =>
        have hx:=HV.out x hpr
        subst hx
        have hoke:ok=true:=by rw[← HOK.out,hpr];rfl
        subst hoke
        obtain⟨hps,hml⟩:=HPS.out.on hpr
        have HPS2:=Lib.hid hps
        have HML:=Lib.hid hml
        obtain⟨A,cap,rfl⟩:=O2.out.slice
        clear hpr hps hml
        go_upto_region 8 with fail
        obtain⟨W4,hW4⟩:∃ W4,w2.alloc (.cells #[.string n1,.string n2] 48)=W4:=⟨_,rfl⟩
        obtain⟨Y,hY⟩:∃ Y,w2.heap.size=Y:=⟨_,rfl⟩
        have b4:Below w2.heap.size w2 W4:=by rw[← hW4];exact(Below.refl _ _).alloc (Nat.le_refl _) _
        have k4:Bk W4 Y 48 #[.string n1,.string n2]:=by rw[← hW4,← hY];exact Bk.new _ _ _
        have y0:W4.cell? ⟨Y,0,none⟩=some (.string n1):=k4.cell 0
        have y1:W4.cell? ⟨Y,1,none⟩=some (.string n2):=k4.cell 1
        have O4:=Lib.hid (O2.out.below b4)
        have B4:Hid (Below B w W4):=B2.out.trans (b4.mono Z2.out)
        have Z4:Hid (B≤W4.heap.size):=Nat.le_trans Z2.out b4.size
        rw[hW4,hY]
        clear b4 k4 hW4 hY
        go_wp2_with (at_builtin;refine push_att rfl _ _ rfl B (.slice A ps.length cap) ps a n1 n2 HN1.out HN2.out W4 rfl O4.out rfl hpl Z4.out ?_)
        intro v' w5 o5 b5 k5
        have O5:=Lib.hid o5
        have B5:Hid (Below B w w5):=B4.out.trans b5
        clear o5 b5 k5
        go_wp2_with fail
        go_roundw
        case rel=>exact⟨m,ps++[a],mb,_,rfl,rfl,HMB,HPS2,O5,B5⟩
        case measure =>
          simp only[strLenV]
          have:=HML.out
          have h2:=HSZ.out
          rw[← HMB.out,bts_size]
          omega
    · have HC:=Lib.hid (cutp1_no 59 sb wr (by rw[hsbl];exact h59))
      have HE:=Lib.hid (HPS.out.stop h59)
      clear h59 hsbl
      go_wp2_with fail
      refine HC.out.mono ?_
      rintro e w1 ⟨rfl,rfl⟩
      go_wp2_with fail
      go_ret3
      rw[← HSB.out]
      exact⟨.inl ⟨_,ps,t,rfl,HE.out,HO.out,HPS.out.1,by have:=HPS.out.2.2;omega⟩,HBW.out⟩
end Go.Proofs.YtfbdnaclkfmiaaaGreatDoor
end
section
namespace Go.Proofs.YtfbdnaclkfmiaaaGreatDoor
open Go.RowKit Vc
abbrev four (g:Nat) (w:World) (a b c d:Value):World:=(((w.setCell ⟨g,0,none⟩ a).setCell ⟨g,1,none⟩ b).setCell ⟨g,2,none⟩ c).setCell ⟨g,3,none⟩ d
theorem Bk.four {w:World} {g:Nat} {t:TypeId} {cs:Array Value} (h:Bk w g t cs) (hc:∃ x0 x1 x2 x3,cs=#[x0,x1,x2,x3]) (a b c d:Value):Bk (four g w a b c d) g t #[a,b,c,d]:=by
  obtain⟨x0,x1,x2,x3,rfl⟩:=hc
  have:=(((h.put 0 a).put 1 b).put 2 c).put 3 d
  simpa using this
theorem below_four {B g:Nat} {w0 w:World} (h:Below B w0 w) (hg:B≤g) (a b c d:Value):Below B w0 (four g w a b c d) :=
  (((h.setCell (p:=⟨g,0,none⟩) hg a).setCell (p:=⟨g,1,none⟩) hg b).setCell (p:=⟨g,2,none⟩) hg c).setCell (p:=⟨g,3,none⟩) hg d
theorem OwnA.four {B g:Nat} {w:World} {v:Value} {l:List Att} {cs:Array Value} {t:TypeId} (h:OwnA B w v l) (hb:Bk w g t cs) (ht:t≠48) (a b c d:Value):OwnA B (four g w a b c d) v l:=by
  have h1:=h.stored hb ht 0 a
  have b1:=hb.put 0 a
  have h2:=h1.stored b1 ht 1 b
  have b2:=b1.put 1 b
  have h3:=h2.stored b2 ht 2 c
  have b3:=b2.put 2 c
  exact h3.stored b3 ht 3 d
def PropV (B:Nat) (l:List UInt8) (e:Ending) (w':World):Prop :=
  (∃ (p:Pr) (u:Value),e=.returned (.tuple #[agP p u,.bool true])∧propL l=some p∧OwnA B w' u p.2.2.1∧p.1.length≤l.length∧p.2.1.length≤l.length∧p.2.2.2.length≤l.length∧p.2.2.1.length≤l.length)∨(propL l=none∧e=.returned (.tuple #[.agg #[.string ⟨#[]⟩,.string ⟨#[]⟩,.slice none 0 0,.string ⟨#[]⟩],.bool false]))
theorem pars_names (l:List UInt8):parsF (l.length+1) [] (namesL l).2.2=parsF ((namesL l).2.2.length+1) [] (namesL l).2.2 :=
  pars_fuel (l.length+1) ((namesL l).2.2.length+1) (namesL l).2.2 [] (by have:=names_le l;omega) (by omega)
theorem prop_name {l:List UInt8} (h:(namesL l).2.1=[]):propL l=none:=by
  unfold propL
  rw[head_names,if_pos (by simp only[h];rfl)]
theorem prop_pars {l:List UInt8} (h:parsF ((namesL l).2.2.length+1) [] (namesL l).2.2=none):propL l=none:=by
  unfold propL
  split
  · rfl
  · rw[head_names]
    simp only
    rw[pars_names,h]
theorem prop_end {l t:List UInt8} {ps:List Par} (h:parsF ((namesL l).2.2.length+1) [] (namesL l).2.2=some (ps,t)) (ht:t.head?≠some 58):propL l=none:=by
  unfold propL
  split
  · rfl
  · rw[head_names]
    simp only
    rw[pars_names,h]
    split
    · rename_i e
      injection e with e
      injection e with e1 e2
      subst e2
      exact absurd rfl ht
    · rfl
theorem prop_yes {l v:List UInt8} {ps:List Par} (h:parsF ((namesL l).2.2.length+1) [] (namesL l).2.2=some (ps,58::v)) (hn:(namesL l).2.1≠[]):propL l=some ((namesL l).1,up (namesL l).2.1,ps,v):=by
  unfold propL
  rw[head_names,if_neg (by intro e;apply hn;unfold up at e;simpa using e)]
  simp only
  rw[pars_names,h]
  rfl
theorem names_wc (l:List UInt8):∀ c∈(namesL l).2.1,wc c=true:=by
  unfold namesL
  split
  · exact while_wc _
  · exact while_wc _
set_option maxHeartbeats 4000000 in
set_option maxRecDepth 100000 in
theorem property_any (s:ByteArray) (w:World) (hM:MaxL w) (hs:s.size≤1000000000) :
    Calls Tryz.prog 224 #[.string s] w fun e w'=>PropV w.heap.size s.data.toList e w'∧Below w.heap.size w w':=by
  obtain⟨l,hl⟩:∃ l,s.data.toList=l:=⟨_,rfl⟩
  have hsz:=Lib.size_eq s
  have HN:=Lib.hid (fun (W:World)=>names_any s W hs)
  rw[hl] at hsz HN ⊢
  have hle:=names_le l
  have HM:=Lib.hid hM
  obtain⟨R,hR⟩:∃ R,bts (namesL l).2.2=R:=⟨_,rfl⟩
  have hRs:R.size≤1000000000:=by rw[← hR,bts_size];omega
  have HP:=Lib.hid (fun (W:World) (h:Below w.heap.size w W)=>parameters_any R W (HM.out.below h) hRs)
  have HRL:Hid (R.data.toList=(namesL l).2.2):=by rw[← hR];rfl
  have HLE:=Lib.hid hle
  obtain⟨gb,hgb⟩:∃ gb,bts (namesL l).1=gb:=⟨_,rfl⟩
  obtain⟨nb,hnb⟩:∃ nb,bts (namesL l).2.1=nb:=⟨_,rfl⟩
  have HGB:=Lib.hid hgb
  have HNB:=Lib.hid hnb
  have hnw:∀ c∈nb.data.toList,wc c=true:=by rw[← hnb];exact names_wc l
  have HU:=Lib.hid (fun (W:World)=>upper_any nb W (by rw[← hnb,bts_size];omega) hnw)
  have hls:l.length≤1000000000:=by omega
  obtain⟨eb,heb⟩:∃ eb,nb.toList.isEmpty=eb:=⟨_,rfl⟩
  have HEB:Hid (eb=decide ((namesL l).2.1=[])):=by
    unfold Hid
    rw[← heb,← hnb,ByteArray.toList_mk]
    cases (namesL l).2.1<;>rfl
  rw[hR,hgb,hnb] at HN
  clear hM hs hsz hl hle hR hgb hnb hnw
  go_enter Tryz.func224,Tryz.ntmps224
  go_wp2_with fail
  refine(HN.out _).mono ?_
  rintro e w1 ⟨rfl,b1⟩
  have K1:=Lib.hid ((Bk.new w 41 #[.string ⟨#[]⟩,.string ⟨#[]⟩,.slice none 0 0,.string ⟨#[]⟩]).below b1 (Bk.new _ _ _).lt)
  have B1:Hid (Below w.heap.size w w1):=((Below.refl _ w).alloc (Nat.le_refl _) _).trans (b1.mono (by simp))
  clear b1
  go_wp2_with fail
  refine(HP.out _ B1.out).mono ?_
  rintro e w2 ⟨hv,b2⟩
  have B2:Hid (Below w.heap.size w w2):=B1.out.trans (b2.mono B1.out.size)
  have K2:=Lib.hid (K1.out.below b2 K1.out.lt)
  have Z1:Hid (w.heap.size≤w1.heap.size):=B1.out.size
  have HV:Hid (ParsV w1.heap.size (namesL l).2.2 e w2):=by unfold Hid;rw[← HRL.out];exact hv
  clear hv b2
  obtain⟨v0,d0⟩:∃ v,w2.cell? ⟨w.heap.size,0,none⟩=some v:=⟨_,K2.out.cell 0⟩
  obtain⟨v1,d1⟩:∃ v,w2.cell? ⟨w.heap.size,1,none⟩=some v:=⟨_,K2.out.cell 1⟩
  obtain⟨v2,d2⟩:∃ v,w2.cell? ⟨w.heap.size,2,none⟩=some v:=⟨_,K2.out.cell 2⟩
  obtain⟨v3,d3⟩:∃ v,w2.cell? ⟨w.heap.size,3,none⟩=some v:=⟨_,K2.out.cell 3⟩
  have f0:w2.frozen? ⟨w.heap.size,0,none⟩=false:=K2.out.free 0
  have f1:w2.frozen? ⟨w.heap.size,1,none⟩=false:=K2.out.free 1
  have f2:w2.frozen? ⟨w.heap.size,2,none⟩=false:=K2.out.free 2
  have f3:w2.frozen? ⟨w.heap.size,3,none⟩=false:=K2.out.free 3
  rcases HV.out with ⟨v,ps,t,rfl,hps,hown,htl,hpl⟩ | ⟨rfl,hps⟩
  · by_cases h58:t.head?=some 58
    · obtain⟨r,rfl⟩:∃ r,t=58::r:=by
        cases t with
        | nil=>cases h58
        | cons x t=>exact⟨t,by rw[show x=58 by simpa using h58]⟩
      have HC:=Lib.hid (fun (W:World)=>cutp1_yes 58 (bts (58::r)) r W rfl)
      cases eb
      · have hn:(namesL l).2.1≠[]:=fun e=>by have:=HEB.out;rw[decide_eq_true e] at this;cases this
        have HX:=Lib.hid (prop_yes hps hn)
        obtain⟨rb,hrb⟩:∃ rb,bts r=rb:=⟨_,rfl⟩
        obtain⟨tb,htb⟩:∃ tb,bts (58::r)=tb:=⟨_,rfl⟩
        have HRB:=Lib.hid hrb
        have HO:=Lib.hid hown
        obtain⟨A,cap,rfl⟩:=hown.slice
        have HLL:Hid (r.length≤l.length∧ps.length≤l.length):=by have:=HLE.out;simp only[List.length_cons] at htl;exact⟨by omega,by omega⟩
        rw[hrb,htb] at HC
        rw[htb]
        clear hrb htb hn h58 hps hown htl hpl
        go_wp2_with fail
        refine(HC.out _).mono ?_
        rintro e w3 ⟨rfl,rfl⟩
        clear d0 d1 d2 d3 f0 f1 f2 f3
        go_wp2_with fail
        refine(HU.out _).mono ?_
        rintro e w4 ⟨rfl,b4⟩
        have B4:Hid (Below w.heap.size w w4):=B2.out.trans (b4.mono B2.out.size)
        have K4:=Lib.hid (K2.out.below b4 K2.out.lt)
        have O4:=Lib.hid (HO.out.below b4)
        obtain⟨ub,hub⟩:∃ ub,bts (up nb.data.toList)=ub:=⟨_,rfl⟩
        have HUB:=Lib.hid hub
        rw[hub]
        clear hub b4
        obtain⟨v0,d0⟩:∃ v,w4.cell? ⟨w.heap.size,0,none⟩=some v:=⟨_,K4.out.cell 0⟩
        obtain⟨v1,d1⟩:∃ v,w4.cell? ⟨w.heap.size,1,none⟩=some v:=⟨_,K4.out.cell 1⟩
        obtain⟨v2,d2⟩:∃ v,w4.cell? ⟨w.heap.size,2,none⟩=some v:=⟨_,K4.out.cell 2⟩
        obtain⟨v3,d3⟩:∃ v,w4.cell? ⟨w.heap.size,3,none⟩=some v:=⟨_,K4.out.cell 3⟩
        have f0:w4.frozen? ⟨w.heap.size,0,none⟩=false:=K4.out.free 0
        have f1:w4.frozen? ⟨w.heap.size,1,none⟩=false:=K4.out.free 1
        have f2:w4.frozen? ⟨w.heap.size,2,none⟩=false:=K4.out.free 2
        have f3:w4.frozen? ⟨w.heap.size,3,none⟩=false:=K4.out.free 3
        go_wp2_with fail
        have KF:=Bk.four K4.out ⟨_,_,_,_,rfl⟩ (.string gb) (.string ub) (.slice A ps.length cap) (.string rb)
        have q0:World.cell? (four w.heap.size w4 (.string gb) (.string ub) (.slice A ps.length cap) (.string rb)) ⟨w.heap.size,0,none⟩=some (.string gb):=KF.cell 0
        have q1:World.cell? (four w.heap.size w4 (.string gb) (.string ub) (.slice A ps.length cap) (.string rb)) ⟨w.heap.size,1,none⟩=some (.string ub):=KF.cell 1
        have q2:World.cell? (four w.heap.size w4 (.string gb) (.string ub) (.slice A ps.length cap) (.string rb)) ⟨w.heap.size,2,none⟩=some (.slice A ps.length cap):=KF.cell 2
        have q3:World.cell? (four w.heap.size w4 (.string gb) (.string ub) (.slice A ps.length cap) (.string rb)) ⟨w.heap.size,3,none⟩=some (.string rb):=KF.cell 3
        refine bodyPost_ret (v:=.tuple #[.agg #[.string gb,.string ub,.slice A ps.length cap,.string rb],.bool true]) (by simp[results,Tryz.results224,go_sem,q0,q1,q2,q3]) rfl ⟨.inl ⟨_,.slice A ps.length cap,?_,HX.out,((O4.out.weak Z1.out).four K4.out (by decide) _ _ _ _),?_⟩,below_four B4.out (Nat.le_refl _) _ _ _ _⟩
        · show Ending.returned (.tuple #[.agg #[.string gb,.string ub,.slice A ps.length cap,.string rb],.bool true])=.returned (.tuple #[.agg #[.string (bts (namesL l).1),.string (bts (up (namesL l).2.1)),.slice A ps.length cap,.string (bts r)],.bool true])
          rw[HGB.out,HRB.out,← HUB.out,← HNB.out]
        · have h1:=HLE.out
          refine⟨h1.1,?_,HLL.out.1,HLL.out.2⟩
          show (up (namesL l).2.1).length≤l.length
          unfold up
          rw[List.length_map]
          exact h1.2.1
      · have HX:=Lib.hid (prop_name (l:=l) (by have:=HEB.out;exact of_decide_eq_true this.symm))
        obtain⟨tb,htb⟩:∃ tb,bts (58::r)=tb:=⟨_,rfl⟩
        rw[htb] at HC
        obtain⟨A,cap,rfl⟩:=hown.slice
        rw[htb]
        clear htb h58 hps hown htl hpl
        go_wp2_with fail
        refine(HC.out _).mono ?_
        rintro e w3 ⟨rfl,rfl⟩
        go_wp2_with fail
        have KF:=Bk.four K2.out ⟨_,_,_,_,rfl⟩ (.string ⟨#[]⟩) (.string ⟨#[]⟩) (.slice none 0 0) (.string ⟨#[]⟩)
        have q0:World.cell? (four w.heap.size w3 (.string ⟨#[]⟩) (.string ⟨#[]⟩) (.slice none 0 0) (.string ⟨#[]⟩)) ⟨w.heap.size,0,none⟩=some (.string ⟨#[]⟩):=KF.cell 0
        have q1:World.cell? (four w.heap.size w3 (.string ⟨#[]⟩) (.string ⟨#[]⟩) (.slice none 0 0) (.string ⟨#[]⟩)) ⟨w.heap.size,1,none⟩=some (.string ⟨#[]⟩):=KF.cell 1
        have q2:World.cell? (four w.heap.size w3 (.string ⟨#[]⟩) (.string ⟨#[]⟩) (.slice none 0 0) (.string ⟨#[]⟩)) ⟨w.heap.size,2,none⟩=some (.slice none 0 0):=KF.cell 2
        have q3:World.cell? (four w.heap.size w3 (.string ⟨#[]⟩) (.string ⟨#[]⟩) (.slice none 0 0) (.string ⟨#[]⟩)) ⟨w.heap.size,3,none⟩=some (.string ⟨#[]⟩):=KF.cell 3
        refine bodyPost_ret (v:=.tuple #[.agg #[.string ⟨#[]⟩,.string ⟨#[]⟩,.slice none 0 0,.string ⟨#[]⟩],.bool false]) (by simp[results,Tryz.results224,go_sem,q0,q1,q2,q3]) rfl ⟨.inr ⟨HX.out,rfl⟩,below_four B2.out (Nat.le_refl _) _ _ _ _⟩
    · have HC:=Lib.hid (fun (W:World)=>cutp1_no 58 (bts t) W h58)
      have HX:=Lib.hid (prop_end hps h58)
      obtain⟨tb,htb⟩:∃ tb,bts t=tb:=⟨_,rfl⟩
      rw[htb] at HC
      obtain⟨A,cap,rfl⟩:=hown.slice
      rw[htb]
      clear htb h58 hps hown htl hpl
      go_wp2_with fail
      refine(HC.out _).mono ?_
      rintro e w3 ⟨rfl,rfl⟩
      cases eb
      all_goals
        go_wp2_with fail
        have KF:=Bk.four K2.out ⟨_,_,_,_,rfl⟩ (.string ⟨#[]⟩) (.string ⟨#[]⟩) (.slice none 0 0) (.string ⟨#[]⟩)
        have q0:World.cell? (four w.heap.size w3 (.string ⟨#[]⟩) (.string ⟨#[]⟩) (.slice none 0 0) (.string ⟨#[]⟩)) ⟨w.heap.size,0,none⟩=some (.string ⟨#[]⟩):=KF.cell 0
        have q1:World.cell? (four w.heap.size w3 (.string ⟨#[]⟩) (.string ⟨#[]⟩) (.slice none 0 0) (.string ⟨#[]⟩)) ⟨w.heap.size,1,none⟩=some (.string ⟨#[]⟩):=KF.cell 1
        have q2:World.cell? (four w.heap.size w3 (.string ⟨#[]⟩) (.string ⟨#[]⟩) (.slice none 0 0) (.string ⟨#[]⟩)) ⟨w.heap.size,2,none⟩=some (.slice none 0 0):=KF.cell 2
        have q3:World.cell? (four w.heap.size w3 (.string ⟨#[]⟩) (.string ⟨#[]⟩) (.slice none 0 0) (.string ⟨#[]⟩)) ⟨w.heap.size,3,none⟩=some (.string ⟨#[]⟩):=KF.cell 3
        refine bodyPost_ret (v:=.tuple #[.agg #[.string ⟨#[]⟩,.string ⟨#[]⟩,.slice none 0 0,.string ⟨#[]⟩],.bool false]) (by simp[results,Tryz.results224,go_sem,q0,q1,q2,q3]) rfl ⟨.inr ⟨HX.out,rfl⟩,below_four B2.out (Nat.le_refl _) _ _ _ _⟩
  · have HC:=Lib.hid (fun (W:World)=>cutp1_no 58 ⟨#[]⟩ W (by intro e;cases e))
    have HX:=Lib.hid (prop_pars hps)
    clear hps
    go_wp2_with fail
    refine(HC.out _).mono ?_
    rintro e w3 ⟨rfl,rfl⟩
    cases eb
    all_goals
      go_wp2_with fail
      have KF:=Bk.four K2.out ⟨_,_,_,_,rfl⟩ (.string ⟨#[]⟩) (.string ⟨#[]⟩) (.slice none 0 0) (.string ⟨#[]⟩)
      have q0:World.cell? (four w.heap.size w3 (.string ⟨#[]⟩) (.string ⟨#[]⟩) (.slice none 0 0) (.string ⟨#[]⟩)) ⟨w.heap.size,0,none⟩=some (.string ⟨#[]⟩):=KF.cell 0
      have q1:World.cell? (four w.heap.size w3 (.string ⟨#[]⟩) (.string ⟨#[]⟩) (.slice none 0 0) (.string ⟨#[]⟩)) ⟨w.heap.size,1,none⟩=some (.string ⟨#[]⟩):=KF.cell 1
      have q2:World.cell? (four w.heap.size w3 (.string ⟨#[]⟩) (.string ⟨#[]⟩) (.slice none 0 0) (.string ⟨#[]⟩)) ⟨w.heap.size,2,none⟩=some (.slice none 0 0):=KF.cell 2
      have q3:World.cell? (four w.heap.size w3 (.string ⟨#[]⟩) (.string ⟨#[]⟩) (.slice none 0 0) (.string ⟨#[]⟩)) ⟨w.heap.size,3,none⟩=some (.string ⟨#[]⟩):=KF.cell 3
      refine bodyPost_ret (v:=.tuple #[.agg #[.string ⟨#[]⟩,.string ⟨#[]⟩,.slice none 0 0,.string ⟨#[]⟩],.bool false]) (by simp[results,Tryz.results224,go_sem,q0,q1,q2,q3]) rfl ⟨.inr ⟨HX.out,rfl⟩,below_four B2.out (Nat.le_refl _) _ _ _ _⟩
end Go.Proofs.YtfbdnaclkfmiaaaGreatDoor
end
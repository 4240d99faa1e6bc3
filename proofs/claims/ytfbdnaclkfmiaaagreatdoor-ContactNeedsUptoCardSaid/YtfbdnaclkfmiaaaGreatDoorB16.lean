import Derived.Test.YtfbdnaclkfmiaaaGreatDoorB14
import Derived.Test.YtfbdnaclkfmiaaaGreatDoorB13
import Derived.Laws.OwnMore
import Derived.Test.YtfbdnaclkfmiaaaGreatDoorB09
import Derived.Laws.MakeOwn
section
namespace Go.Proofs.YtfbdnaclkfmiaaaGreatDoor
open Go.RowKit Tx
def unfA (l:List UInt8):List (List UInt8) × Int:=if 20000 < l.length then ([],4) else if valid l then (match unfold l with
  | some m=>(m,0)
  | none=>([],17)) else ([],3)
def Unfolded (B:Nat) (w:World) (l:List UInt8) (e:Ending) (w':World):Prop :=
  ∃ v,e=.returned (.tuple #[v,.int .i64 (unfA l).2])∧ReadT w'.heap.size w' v (sts (unfA l).1)∧Below B w w'
theorem Unfolded.good {B:Nat} {w w':World} {l:List UInt8} {m:List (List UInt8)} {v:Value} (h:unfA l=(m,0)) (hv:ReadT w'.heap.size w' v (sts m)) (hb:Below B w w'):Unfolded B w l (.returned (.tuple #[v,.int .i64 0])) w' :=
  ⟨v,by rw[h],by rw[h];exact hv,hb⟩
def UStand (l:List UInt8) (acc:List (List UInt8)) (f k:Nat):Prop:=f≤k∧k≤l.length∧acc.length≤f∧Tx.unfold l=(rowsA ((l.drop f).take (k - f)) (l.drop k)).bind (linesA acc)
theorem UStand.start (l:List UInt8):UStand l [] 0 0:=⟨Nat.le_refl _,Nat.zero_le _,Nat.le_refl _,by simp[Tx.unfold]⟩
section
variable {l:List UInt8} {acc:List (List UInt8)} {f k:Nat} {c:UInt8}
theorem at_drop (hc:l[k]?=some c):l.drop k=c::l.drop (k+1):=by
  obtain⟨hk,he⟩:=List.getElem?_eq_some_iff.1 hc
  rw[List.drop_eq_getElem_cons hk,he]
theorem UStand.stop (h:UStand l acc f k) (hk:l.length≤k):Tx.unfold l=if f < l.length then none else some acc:=by
  obtain⟨h1,h2,_,h3⟩:=h
  obtain rfl:k=l.length:=by omega
  rw[h3,List.drop_length,rowsA_nil,List.take_of_length_le (by rw[List.length_drop];omega)]
  by_cases hf:f < l.length
  · rw[if_pos hf,if_neg (drop_ne hf)];rfl
  · rw[if_neg hf,if_pos (List.drop_eq_nil_of_le (by omega))];rfl
theorem UStand.last (h:UStand l acc f k) (hc:l[k]?=some 13) (hk:l.length≤k+1):Tx.unfold l=none:=by
  rw[h.2.2.2,at_drop hc,List.drop_eq_nil_of_le hk,rowsA_13];rfl
theorem UStand.on (h:UStand l acc f k) (hc:l[k]?=some c) (h1:c≠10) (h2:c≠13):UStand l acc f (k+1):=by
  obtain⟨g1,g2,g4,g3⟩:=h
  obtain⟨hk,_⟩:=List.getElem?_eq_some_iff.1 hc
  refine⟨by omega,hk,g4,?_⟩
  rw[g3,at_drop hc,rowsA_on _ _ h1 h2,take_snoc (at_drop hc) g1]
theorem UStand.ended (h:UStand l acc f k) (hc:l[k]?=some 13) (hd:l[k+1]?=some 10):Tx.unfold l=((rowsA [] (l.drop (k+2))).map ((l.drop f).take (k - f)::·)).bind (linesA acc):=by
  rw[h.2.2.2,at_drop hc,at_drop hd,rowsA_end]
theorem UStand.more (h:UStand l acc f k) (hc:l[k]?=some 13) (hd:l[k+1]?=some 10) (hr:cont ((l.drop f).take (k - f))=true) (ha:acc≠[]):UStand l (addLast acc ((l.drop f).take (k - f)).tail) (k+2) (k+2):=by
  obtain⟨hk,_⟩:=List.getElem?_eq_some_iff.1 hd
  refine⟨Nat.le_refl _,hk,by rw[addLast_len ha];have:=h.2.2.1;have:=h.1;omega,?_⟩
  rw[h.ended hc hd,Nat.sub_self,List.take_zero]
  cases rowsA [] (l.drop (k+2)) with
  | none=>rfl
  | some t=>exact linesA_more t hr ha
theorem UStand.new (h:UStand l acc f k) (hc:l[k]?=some 13) (hd:l[k+1]?=some 10) (hr:cont ((l.drop f).take (k - f))=false):UStand l (acc++[(l.drop f).take (k - f)]) (k+2) (k+2):=by
  obtain⟨hk,_⟩:=List.getElem?_eq_some_iff.1 hd
  refine⟨Nat.le_refl _,hk,by rw[List.length_append,List.length_singleton];have:=h.2.2.1;have:=h.1;omega,?_⟩
  rw[h.ended hc hd,Nat.sub_self,List.take_zero]
  cases rowsA [] (l.drop (k+2)) with
  | none=>rfl
  | some t=>exact linesA_new acc t hr
end
def Short (acc:List (List UInt8)) (f:Nat):Prop:=∀ x∈acc,x.length≤f
theorem Short.nil (f:Nat):Short [] f:=fun x hx=>by cases hx
theorem Short.new {acc:List (List UInt8)} {f k:Nat} {x:List UInt8} (h:Short acc f) (hx:x.length≤k) (hk:f≤k):Short (acc++[x]) k:=fun y hy=>by
  rw[List.mem_append,List.mem_singleton] at hy
  rcases hy with hy | rfl
  · have:=h y hy;omega
  · exact hx
theorem Short.more {a:List (List UInt8)} {f k:Nat} {x y:List UInt8} (h:Short (a++[y]) f) (hx:f+x.length≤k) (hk:f≤k):Short (addLast (a++[y]) x) k:=by
  rw[addLast_snoc]
  refine Short.new (f:=f) (fun z hz=>h z (by simp[hz])) ?_ hk
  have:=h y (by simp)
  rw[List.length_append];omega
theorem OwnT.at {B:Nat} {w:World} {g cap n:Nat} {x:List ByteArray} (h:OwnT B w (.slice (some ⟨g,0,none⟩) n cap) x) {j:Nat} {b:ByteArray} (hb:x[j]?=some b):w.cell? ⟨g,j,none⟩=some (.string b)∧w.frozen? ⟨g,j,none⟩=false∧B≤g∧g < w.heap.size∧n=x.length:=by
  have h':w.ownsRow B 9 1 (.slice (some ⟨g,0,none⟩) n cap) x.length (strs x):=h
  have hn:n=x.length:=by
    rcases h'.2 with ⟨e,_⟩ | ⟨_,_,_,e,_⟩
    · simp at e
    · simp at e;exact e.2.1
  subst hn
  have hlt:=h.low (j:=g) rfl
  exact⟨by rw[h'.cellAt j (by have:=(List.getElem?_eq_some_iff.1 hb).1;omega)];exact strs_get hb,h'.frozenAt j,hlt.1,hlt.2,rfl⟩
theorem strs_set (x:List ByteArray) (i:Nat) (b:ByteArray):(strs x).set i (.string b)=strs (x.set i b):=by unfold strs;rw[List.map_set]
theorem OwnT.put {B:Nat} {w:World} {g cap n:Nat} {x:List ByteArray} (h:OwnT B w (.slice (some ⟨g,0,none⟩) n cap) x) (j:Nat) (b:ByteArray):OwnT B (w.setCell ⟨g,j,none⟩ (.string b)) (.slice (some ⟨g,0,none⟩) n cap) (x.set j b):=by
  have h':w.ownsRow B 9 1 (.slice (some ⟨g,0,none⟩) n cap) x.length (strs x):=h
  have hn:n=x.length:=by
    rcases h'.2 with ⟨e,_⟩ | ⟨_,_,_,e,_⟩
    · simp at e
    · simp at e;exact e.2.1
  subst hn
  have:=(h'.stored j (.string b)).1
  rw[strs_set] at this
  unfold OwnT
  rw[List.length_set]
  exact this
theorem OwnT.some {B:Nat} {w:World} {v:Value} {x:List ByteArray} (h:OwnT B w v x) (hx:x≠[]):∃ g cap,v=.slice (some ⟨g,0,none⟩) x.length cap:=by
  rcases h.2 with ⟨rfl,h0⟩ | ⟨g,cap,cur,rfl,_⟩
  · exact absurd (List.eq_nil_of_length_eq_zero h0) hx
  · exact⟨_,_,rfl⟩
end Go.Proofs.YtfbdnaclkfmiaaaGreatDoor
end
section
namespace Go.Proofs.YtfbdnaclkfmiaaaGreatDoor
open Go.RowKit Tx
def CStand (l:List UInt8) (acc:List (List UInt8)) (t:List UInt8):Prop:=chs l=acc++chs t∧acc.length+t.length≤l.length
theorem CStand.start (l:List UInt8):CStand l [] l:=⟨rfl,by simp⟩
theorem CStand.next {l t:List UInt8} {acc:List (List UInt8)} (h:CStand l acc t) (ht:t≠[]) {n:Nat} (hn:(dc t).2=n):CStand l (acc++[t.take n]) (t.drop n):=by
  have h1:=dc_ge1 t
  have h2:0 < t.length:=List.length_pos_iff.2 ht
  refine⟨by rw[h.1,chs_step ht,hn];simp,?_⟩
  have:=h.2
  rw[List.length_append,List.length_singleton,List.length_drop]
  omega
def strLenO:Value→Nat
  | .string t=>t.size
  | _=>0
theorem strLenO_string (t:ByteArray):strLenO (.string t)=t.size:=rfl
set_option maxHeartbeats 4000000 in
set_option maxRecDepth 100000 in
theorem characters_any (s:ByteArray) (w:World) (hT:Tabs w) (hs:s.size < 1000000000000) :
    Calls Tryz.prog 189 #[.string s] w fun e w'=>∃ g cap,e=.returned (.slice (some ⟨g,0,none⟩) (chs s.data.toList).length cap)∧(chs s.data.toList).length≤cap∧cap≤maxLen∧w.heap.size≤g∧g < w'.heap.size∧(∀ j x,(sts (chs s.data.toList))[j]?=some x→w'.cell? ⟨g,j,none⟩=some (.string x))∧Below w.heap.size w w':=by
  have HTab:=Lib.hid (fun (W:World) (hb:Below w.heap.size w W)=>hT.below hb)
  have HRC:=Lib.hid (Tryz.utf8_RuneCountInString s w (by omega))
  have hrl:=Lib.runeCount_le s
  obtain⟨n,hn⟩:∃ n,Lib.runeCount s=n:=⟨_,rfl⟩
  rw[hn] at HRC hrl
  have HL:=Lib.hid (chs_len s.data.toList)
  have hsz:=Lib.hid (Lib.size_eq s)
  obtain⟨i0,hi,hz0,hz1,hz2⟩:=info_parts infoStr
  clear hn
  go_enter Tryz.func189,Tryz.ntmps189
  go_wp2_with fail
  refine HRC.out.mono ?_
  rintro e w1 ⟨rfl,pos,rfl⟩
  have b1:Below w.heap.size w (w.iter s pos):=(Below.refl _ _).alloc (Nat.le_refl _) _
  have hs1:=b1.size
  obtain⟨w2,hmk,hown0,hgr⟩:=run_make_own (P:=Tryz.prog) (w.iter s pos) w.heap.size 23 9 i0 _ 1 Tryz.underlying23 hi hz0 hz1 .i64 .i64 n (by rw[hz2];omega) (by unfold maxLen;omega) hs1
  have hb0:Below w.heap.size w w2:=b1.grown hgr hs1 (fun k hk=>by cases hk)
  have HO0:Hid (OwnT w.heap.size w2 (.slice (some ⟨(w.iter s pos).heap.size,0,none⟩) 0 n) []):=by
    unfold Hid OwnT
    rw[show strs []=[] from by unfold strs;rfl]
    exact hown0
  clear hown0 hgr b1
  go_wp2_with fail
  go_loopw [0,3] (fun tv lv wr=>∃ (t:ByteArray) (acc:List (List UInt8)) (v:Value),tv=.string t∧lv=v∧t.size≤s.size∧Hid (CStand s.data.toList acc t.data.toList)∧Hid (OwnT w.heap.size wr v (sts acc))∧v≠.slice none 0 0∧Below w.heap.size w wr) (fun tv _ _=>strLenO tv)
  case atStart=>exact⟨s,[],_,rfl,rfl,Nat.le_refl _,CStand.start _,HO0,by simp,hb0⟩
  case round =>
    obtain⟨t,acc,lv,rfl,hlv,hts,hst,hown,hnn,hb⟩:=hrel
    have hlv2:=hlv.symm
    subst hlv2
    have hsw:=hb.size
    have htz:=Lib.hid (Lib.size_eq t)
    have HAL:Hid ((sts acc).length≤1000000000000):=by
      unfold Hid
      rw[sts_len]
      have:=hst.out.2
      rw[← hsz.out] at this
      omega
    by_cases he:t.data.toList=[]
    · have hte:t.toList.isEmpty=true:=by rw[Lib.toList_data,he];rfl
      have hall:Hid (chs s.data.toList=acc):=by
        unfold Hid
        rw[hst.out.1,he,chs_nil,List.append_nil]
      clear he
      go_wp2_with fail
      go_ret
      have ho:=hown.out
      have hforms:∃ g cap,lv=.slice (some ⟨g,0,none⟩) (sts acc).length cap∧(sts acc).length≤cap∧cap≤maxLen∧w.heap.size≤g∧g < wr.heap.size:=by
        rcases ho.2 with ⟨h1,_⟩ | ⟨g,cap,cur,h1,h2,h3,h4,h5,_⟩
        · exact absurd h1 hnn
        · exact⟨g,cap,h1,h4,h5,h2,lt_of_block h3⟩
      obtain⟨g,cap,rfl,h4,h5,h2,h3⟩:=hforms
      refine⟨g,cap,?_,?_,?_,h2,h3,?_,hb⟩
      · rw[hall.out,sts_len];rfl
      · rw[hall.out];rw[sts_len] at h4;exact h4
      · exact h5
      · intro j x hx
        rw[hall.out] at hx
        exact(hown.out.at hx).1
    · have hte:t.toList.isEmpty=false:=by
        rw[Lib.toList_data]
        cases h:t.data.toList with
        | nil=>exact absurd h he
        | cons a r=>rfl
      obtain⟨c,m,hd⟩:∃ c m,dc t.data.toList=(c,m):=⟨_,_,rfl⟩
      have hm1:=dc_ge1 t.data.toList
      have hm2:=dc_le he
      rw[hd,← htz.out] at hm2
      rw[hd] at hm1
      have hS:=hst.out.next he (n:=m) (by rw[hd])
      have HD:=Lib.hid (fun (W:World) h=>dec_any t c m W he hd h)
      have hcut:(t.extract 0 m).data.toList=t.data.toList.take m:=by rw[mid_cut];simp
      have hext:=Lib.extract_to_end t m
      obtain⟨U,hU⟩:∃ U,t.extract m t.size=U:=⟨_,rfl⟩
      have hUs:U.size+m=t.size:=by rw[← hU,ByteArray.size_extract];omega
      rw[hU] at hext
      rw[← hext] at hS
      have HS:=Lib.hid hS
      have HT2:Hid (sts (acc++[t.data.toList.take m])=sts acc++[t.extract 0 m]):=by unfold Hid;rw[sts_snoc,bytes_of hcut]
      clear hd hcut hext he hS
      go_wp2_with fail
      refine(HD.out _ (HTab.out wr hb)).mono ?_
      rintro e w3 ⟨rfl,b3⟩
      have hb3:Below w.heap.size w w3:=hb.trans (b3.mono hsw)
      have hown3:=Lib.hid (hown.out.below b3)
      have hsw3:=hb3.size
      clear b3
      go_wp2_with (at_builtin;refine push_str rfl _ _ rfl w.heap.size lv (sts acc) (t.extract 0 m) w3 rfl hown3.out rfl HAL.out hsw3 ?_)
      intro v' w4 h1 h2
      have R1:Hid (OwnT w.heap.size w4 v' (sts (acc++[t.data.toList.take m]))):=by unfold Hid;rw[HT2.out];exact h1
      have hvn:v'≠.slice none 0 0:=by
        intro e
        have:=h1.slice
        obtain⟨A,cap,h⟩:=this
        rw[e] at h
        simp at h
      clear h1
      go_wp2_with fail
      go_roundw
      case rel=>exact⟨U,_,_,rfl,rfl,by omega,HS,R1,hvn,hb3.trans h2⟩
      case measure=>simp only[strLenO_string];omega
end Go.Proofs.YtfbdnaclkfmiaaaGreatDoor
end
section
namespace Go.Proofs.YtfbdnaclkfmiaaaGreatDoor
open Go.RowKit Tx
def siz:Nat→List (List UInt8)→Nat→Nat
  | n,_,0=>n
  | n,[],_+1=>n
  | n,c::t,k+1=>siz (if n+c.length≤75 then n+c.length else 1+c.length) t k
theorem siz_zero (n:Nat) (cs:List (List UInt8)):siz n cs 0=n:=by cases cs<;>rfl
theorem siz_cons (n:Nat) (c:List UInt8) (t:List (List UInt8)) (k:Nat):siz n (c::t) (k+1)=siz (if n+c.length≤75 then n+c.length else 1+c.length) t k:=rfl
theorem siz_next:∀ (cs:List (List UInt8)) (n k:Nat) (c:List UInt8),cs[k]?=some c→siz n cs (k+1)=(if siz n cs k+c.length≤75 then siz n cs k+c.length else 1+c.length)∧(brk n cs)[k]?=some (!decide (siz n cs k+c.length≤75))
  | [],_,k,c,h=>by simp at h
  | d::t,n,0,c,h=>by
    obtain rfl:d=c:=by simpa using h
    refine⟨by rw[siz_cons,siz_zero,siz_zero],?_⟩
    rw[siz_zero]
    unfold brk
    by_cases h:n+d.length≤75
    · simp[h]
    · simp[h]
  | d::t,n,k+1,c,h=>by
    have ih:=siz_next t (if n+d.length≤75 then n+d.length else 1+d.length) k c (by simpa using h)
    refine⟨ih.1,?_⟩
    have e:siz n (d::t) (k+1)=siz (if n+d.length≤75 then n+d.length else 1+d.length) t k:=rfl
    rw[e]
    unfold brk
    by_cases hh:n+d.length≤75
    · rw[if_pos hh] at ih ⊢
      rw[if_pos hh]
      simpa using ih.2
    · rw[if_neg hh] at ih ⊢
      rw[if_neg hh]
      simpa using ih.2
theorem siz_le:∀ (cs:List (List UInt8)) (n k:Nat),n≤75→(∀ c∈cs,c.length≤4)→siz n cs k≤75
  | _,n,0,h,_=>by unfold siz;exact h
  | [],n,_+1,h,_=>by unfold siz;exact h
  | c::t,n,k+1,h,hc=>by
    unfold siz
    have:=hc c (by simp)
    refine siz_le t _ k ?_ (fun d hd=>hc d (by simp[hd]))
    split<;>omega
set_option maxHeartbeats 1000000 in
set_option maxRecDepth 100000 in
theorem rowsFn_any (b:Nat) (c:ByteArray) (n:Nat) (W:World) (hn:n≤75) (hc:c.size≤4) (hB:Bk W b 3 #[.int .i64 n]) :
    Calls Tryz.prog 190 #[.string c,.pointer (some ⟨b,0,none⟩)] W fun e W'=>e=.returned (.bool (!decide (n+c.size≤75)))∧Bk W' b 3 #[.int .i64 ((if n+c.size≤75 then n+c.size else 1+c.size:Nat):Int)]∧W.grownBy W' (some b):=by
  have c0:=hB.cell 0
  have f0:=hB.free 0
  simp only[Nat.reduceLT,List.size_toArray,List.length_cons,List.length_nil,getElem?_pos,Nat.reduceAdd,List.getElem_toArray,List.getElem_cons_zero] at c0
  have HB:=Lib.hid hB
  by_cases h:n+c.size≤75
  · have d:(!decide (n+c.size≤75))=false:=by simp[h]
    rw[d,if_pos h]
    clear d hB
    go_enter Tryz.func190,Tryz.ntmps190
    go_wp2_with fail
    go_ret
    refine⟨rfl,?_,grown_set _⟩
    have:=HB.out.put 0 (.int .i64 ((n+c.size:Nat):Int))
    simpa using this
  · have d:(!decide (n+c.size≤75))=true:=by simp[h]
    rw[d,if_neg h]
    clear d hB
    go_enter Tryz.func190,Tryz.ntmps190
    go_wp2_with fail
    go_ret
    refine⟨rfl,?_,⟨rfl,rfl,rfl,by simp[World.setCell],fun k _ hk=>?_⟩⟩
    · have:=(HB.out.put 0 (.int .i64 ((n+c.size:Nat):Int))).put 0 (.int .i64 ((1+c.size:Nat):Int))
      simpa using this
    · rw[Below.heap_setCell _ _ _ _ (fun e=>hk (by simp[e])),Below.heap_setCell _ _ _ _ (fun e=>hk (by simp[e]))]
theorem OwnT.weak {B B':Nat} {w:World} {v:Value} {x:List ByteArray} (h:OwnT B w v x) (hB:B'≤B):OwnT B' w v x :=
  ⟨h.1,h.2.imp id fun ⟨g,cap,cur,h1,h2,h3⟩=>⟨g,cap,cur,h1,Nat.le_trans hB h2,h3⟩⟩
theorem join_none (xs:List (List UInt8)):Lib.join xs []=xs.flatten:=by
  cases xs with
  | nil=>rfl
  | cons x t =>
    rw[Lib.join_cons]
    unfold Lib.joinTail
    simp
def rowsL (l:List UInt8):List (List UInt8):=(gat [] (chs l) (brk 0 (chs l))).map List.flatten
theorem piece2_len {α:Type} (ps:List α) (x:Nat × Nat) (h:x.1≤x.2) (h2:x.2≤ps.length):(piece2 ps x).length=x.2 - x.1:=by
  unfold piece2
  rw[List.length_take,List.length_drop]
  omega
theorem piece2_get {α:Type} (ps:List α) (x:Nat × Nat) (i:Nat) (h:i < x.2 - x.1):(piece2 ps x)[i]?=ps[x.1+i]?:=by
  unfold piece2
  rw[List.getElem?_take_of_lt h,List.getElem?_drop]
theorem piece2_map {α β:Type} (f:α→β) (ps:List α) (x:Nat × Nat):(piece2 ps x).map f=piece2 (ps.map f) x:=by
  unfold piece2
  rw[List.map_take,List.map_drop]
theorem rowsL_ivs (l:List UInt8):rowsL l=(ivs 0 0 (brk 0 (chs l))).map fun x=>(piece2 (chs l) x).flatten:=by
  unfold rowsL
  rw[gat_all _ _ (brk_len _ _).symm,List.map_map]
  rfl
theorem flat_le:∀ (a b:List (List UInt8)) (cs:List (List UInt8)),cs=a++b→(b.flatten).length≤cs.flatten.length:=by
  intro a b cs h
  subst h
  simp
theorem piece_flat (l:List UInt8) (x:Nat × Nat):((piece2 (chs l) x).flatten).length≤l.length:=by
  have h1:(piece2 (chs l) x).flatten.length≤((chs l).drop x.1).flatten.length:=by
    unfold piece2
    conv=>rhs;rw[← List.take_append_drop (x.2 - x.1) ((chs l).drop x.1)]
    simp
  have h2:((chs l).drop x.1).flatten.length≤(chs l).flatten.length:=flat_le ((chs l).take x.1) _ _ (List.take_append_drop _ _).symm
  rw[chs_flat] at h2
  omega
set_option maxHeartbeats 4000000 in
set_option maxRecDepth 100000 in
theorem rowsOf_any (s:ByteArray) (w:World) (hT:Tabs w) (hs:s.size < 1000000000) :
    Calls Tryz.prog 154 #[.string s] w fun e w'=>∃ v,e=.returned v∧OwnT w.heap.size w' v (sts (rowsL s.data.toList))∧Below w.heap.size w w':=by
  obtain⟨L,hL⟩:∃ L,chs s.data.toList=L:=⟨_,rfl⟩
  have hLc:=chs_size s.data.toList
  have hLl:=chs_len s.data.toList
  have hiv:=rowsL_ivs s.data.toList
  have hpf:=piece_flat s.data.toList
  rw[hL] at hLc hLl hiv hpf
  rw[← Lib.size_eq] at hLl
  have hsz:=Lib.size_eq s
  obtain⟨b,hb⟩:∃ b,w.heap.size=b:=⟨_,rfl⟩
  obtain⟨W0,hW0⟩:∃ W0,w.alloc (.cells #[.int .i64 0] 3)=W0:=⟨_,rfl⟩
  have hB0:Bk W0 b 3 #[.int .i64 0]:=by
    rw[← hW0,← hb]
    exact Bk.new w 3 #[.int .i64 0]
  have b0:Below b w W0:=by
    rw[← hW0,← hb]
    exact(Below.refl _ _).alloc (Nat.le_refl _) _
  have hs0:W0.heap.size=b+1:=by rw[← hW0,← hb];simp
  have hCh:=characters_any s W0 (hT.below (by rw[hb];exact b0)) (by omega)
  rw[hL,hs0] at hCh
  have HCh:=Lib.hid hCh
  have HJ:=Lib.hid (fun bk o c xs W h1 h2 h3 h4 h5=>Tryz.strings_Join bk o c xs ⟨#[]⟩ W h1 h2 h3 h4 h5)
  have HW0:=Lib.hid hW0
  have HBk:=Lib.hid hB0
  have HIV:=Lib.hid hiv
  have HPF:=Lib.hid hpf
  have HLc:=Lib.hid hLc
  have hal:(w.alloc (.cells #[.int .i64 0] 3)).cell? ⟨w.heap.size,0,none⟩=some (.int .i64 0):=cell_of_row _ _ 0 _ 3 (0,0) (heap_alloc_new w _)
  have hfr:(w.alloc (.cells #[.int .i64 0] 3)).frozen? ⟨w.heap.size,0,none⟩=false:=World.frozen?_alloc_new w _ _ _
  rw[hb] at hal hfr
  clear hW0 hB0 hCh hL hiv hpf hLc
  go_enter Tryz.func154,Tryz.ntmps154
  go_wp2_with fail
  rw[HW0.out]
  refine HCh.out.mono ?_
  rintro e w1 ⟨g,cap,rfl,hc1,hc2,hg1,hg2,hcells,b1⟩
  have hs1:=b1.size
  have hxl:(sts L).length=L.length:=sts_len L
  have hbl:=brk_len L 0
  obtain⟨C,hC⟩:∃ C,w1.heap.size=C:=⟨_,rfl⟩
  have hB1:Bk w1 b 3 #[.int .i64 (siz 0 L 0:Nat)]:=by
    rw[siz_zero]
    exact HBk.out.below b1 (by omega)
  have HG:=gatherR_any g cap L.length b C (sts L) (brk 0 L) (fun k W=>Bk W b 3 #[.int .i64 (siz 0 L k:Nat)]) w1 (by omega) (by omega) (by omega) (by omega) hcells hxl hbl hc1 hc2 (by omega) hB1
    (fun k W W' h1 h2=>(show W'.heap[b]?=_ from h1.trans h2))
    (fun k x B W hx hB hI hCW _=>by
      unfold sts at hx
      rw[List.getElem?_map] at hx
      obtain⟨c,hc,rfl⟩:=Option.map_eq_some_iff.1 hx
      obtain⟨n1,n2⟩:=siz_next L 0 k c hc
      have hc4:=(HLc.out c (List.mem_of_getElem? hc)).2
      have h75:=siz_le L 0 k (by omega) (fun d hd=>(HLc.out d hd).2)
      rw[hB] at n2
      have hBe:B=!decide (siz 0 L k+c.length≤75):=Option.some.inj n2
      have:=rowsFn_any b ⟨c.toArray⟩ (siz 0 L k) W h75 (by rw[Lib.size_eq];exact hc4) hI
      rw[show (⟨c.toArray⟩:ByteArray).size=c.length from Lib.size_eq _] at this
      rw[hBe,n1]
      exact this)
  have HGO:=Lib.hid HG
  have Hcells:=Lib.hid hcells
  have HC1:Hid (∀ x∈ivs 0 0 (brk 0 L),x.1≤x.2∧x.2≤L.length):=fun x hx=>by
    have:=ivs_ok (brk 0 L) 0 0 (Nat.le_refl _) x hx
    rw[hbl,Nat.zero_add] at this
    exact this
  have hIl:=(ivs_len (brk 0 L) 0 0).2
  rw[hbl] at hIl
  clear HG hcells hB1 hxl hbl HBk HCh
  go_wp2_with fail
  refine HGO.out.mono ?_
  rintro e w2 ⟨v,rfl,⟨g2,cap2,rfl,hr1,hr2,hr3,hr4⟩,-,t2⟩
  obtain⟨I,hI⟩:∃ I,ivs 0 0 (brk 0 L)=I:=⟨_,rfl⟩
  rw[hI] at HIV HC1 hIl hr1 hr4 ⊢
  have HI:=Lib.hid hI
  have HR4:=Lib.hid hr4
  have ht2:=t2.below
  have hs2:=ht2.size
  have b2:Below b w w2:=(b0.trans (b1.mono (by omega))).trans ht2
  have hcell2:Hid (∀ j x,(sts L)[j]?=some x→w2.cell? ⟨g,j,none⟩=some (.string x)):=fun j x hx=>by
    rw[World.cell?_of_block (w:=w1) (w':=w2) (a:=⟨g,j,none⟩) (t2.keeps (g:=g) (by omega) (by omega))]
    exact Hcells.out j x hx
  obtain⟨C2,hC2⟩:∃ C2,w2.heap.size=C2:=⟨_,rfl⟩
  rw[hC2] at hr3
  have HBw:=Lib.hid b2
  clear hI hr4 t2 ht2 b2 HGO Hcells
  go_wp2_with fail
  go_loopw [5,14] (fun lv at_ wr=>∃ (k:Nat) (v:Value),lv=v∧at_=.int .i64 k∧k≤I.length∧Hid (OwnT C2 wr v ((sts (rowsL s.data.toList)).take k))∧Below C2 w2 wr) (fun _ at_ _=>I.length - (intOf at_).toNat)
  case atStart=>exact⟨0,_,rfl,rfl,Nat.zero_le _,OwnT.nil _ _,Below.refl _ _⟩
  case round =>
    obtain⟨k,lv,hlv,rfl,hk,hown,hb3⟩:=hrel
    have hlv2:=hlv.symm
    subst hlv2
    have hsw:=hb3.size
    rw[hC2] at hsw
    by_cases hlt:k < I.length
    · obtain⟨x,hx⟩:∃ x,I[k]?=some x:=⟨_,List.getElem?_eq_getElem hlt⟩
      have c0:=HR4.out k x hx
      rw[← hb3.cell (p:=⟨g2,k,none⟩) hr3] at c0
      obtain⟨hx1,hx2⟩:=HC1.out x (List.mem_of_getElem? hx)
      have hpl:=piece2_len (sts L) x hx1 (by rw[sts_len];exact hx2)
      have hmap:(piece2 (sts L) x).map (·.data.toList)=piece2 L x:=by
        rw[piece2_map]
        unfold sts
        rw[List.map_map]
        conv=>rhs;rw[← List.map_id L]
        rfl
      have hJx:=HJ.out g x.1 (cap - x.1) (piece2 (sts L) x) wr (fun j y hy=>by
          have hj:j < x.2 - x.1:=by rw[← hpl];exact(List.getElem?_eq_some_iff.1 hy).1
          rw[piece2_get _ _ _ hj] at hy
          rw[hb3.cell (p:=⟨g,x.1+j,none⟩) (by show g < C2;omega)]
          exact hcell2.out _ _ hy) (by omega) (by rw[hpl];omega) (by rw[hpl];omega)
        (by rw[hmap,join_none];have:=HPF.out x;omega)
      rw[hmap,hpl,join_none] at hJx
      have HJx:=Lib.hid hJx
      have hrow:(rowsL s.data.toList)[k]?=some (piece2 L x).flatten:=by rw[HIV.out,List.getElem?_map,hx];rfl
      have htk:Hid ((sts (rowsL s.data.toList)).take (k+1)=(sts (rowsL s.data.toList)).take k++[⟨((piece2 L x).flatten).toArray⟩]):=by
        unfold Hid
        rw[List.take_add_one]
        unfold sts
        rw[List.getElem?_map,hrow]
        rfl
      have HAL:Hid (((sts (rowsL s.data.toList)).take k).length≤1000000000000):=by unfold Hid;rw[List.length_take];omega
      obtain⟨P,hP⟩:∃ P:ByteArray,⟨((piece2 L x).flatten).toArray⟩=P:=⟨_,rfl⟩
      rw[hP] at HJx htk
      unfold slv at c0
      clear hx hpl hmap hJx hrow hP
      go_wp2_with fail
      refine HJx.out.mono ?_
      rintro e w4 ⟨rfl,b4⟩
      have hb4:Below C2 w2 w4:=hb3.trans (b4.mono hsw)
      have hsw4:=hb4.size
      rw[hC2] at hsw4
      have hown4:=Lib.hid (hown.out.below b4)
      clear b4
      go_wp2_with (at_builtin;refine push_str rfl _ _ rfl C2 lv _ P w4 rfl hown4.out rfl HAL.out hsw4 ?_)
      intro v' w5 h1 h2
      have R1:Hid (OwnT C2 w5 v' ((sts (rowsL s.data.toList)).take (k+1))):=by unfold Hid;rw[htk.out];exact h1
      clear h1
      go_wp2_with fail
      go_roundw
      case rel=>exact⟨k+1,_,rfl,by go_num,by omega,R1,hb4.trans h2⟩
      case measure=>simp[intOf];omega
    · have hke:(sts (rowsL s.data.toList)).length≤k:=by rw[sts_len,HIV.out,List.length_map];omega
      have ho:=hown.out
      rw[List.take_of_length_le hke] at ho
      have HOO:=Lib.hid (ho.weak (B':=b) (by omega))
      clear hke ho
      go_wp2_with fail
      go_ret
      exact⟨lv,rfl,HOO.out,HBw.out.trans (hb3.mono (by omega))⟩
end Go.Proofs.YtfbdnaclkfmiaaaGreatDoor
end
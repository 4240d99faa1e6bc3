import Derived.Test.YtfbdnaclkfmiaaaGreatDoorB40
import Derived.Test.YtfbdnaclkfmiaaaGreatDoorB19
namespace Go.Proofs.YtfbdnaclkfmiaaaGreatDoor
open Go.RowKit Vc Ct
def awL:List Pr:=[([],nFN,[],[97,92,44,98]),([],nIMPP,[],[120,109,112,112,58,65,64,72]),([],[88],[],[121])]
def awC:Con:={ noneC with name:=[97,44,98],jid:=[97,64,104],other:=[([],[88],[],[121])] }
theorem aw_right:rightC awC=true:=by
  have hb:bareB awC.jid=true:=by
    show bareB [97,64,104]=true
    unfold bareB
    rw[bare_ah]
    rfl
  have h1:textsB awC=true:=by decide +kernel
  have h2:noteB awC.note=true:=by decide +kernel
  have h3:rightG awC.groups=true:=by decide +kernel
  have h4:(writeV [awC.other]).2=0:=by decide +kernel
  unfold rightC
  rw[h1,h2,hb,h3,h4]
  rfl
theorem aw_of:ofL awL=(awC,0):=by
  have h1:runK (noneC,[]) [([],nFN,[],[97,92,44,98])]=(0,({ noneC with name:=[97,44,98] },[]++[nFN])):=by
    refine run_known (p:=([],nFN,[],[97,92,44,98])) (by decide) ?_
    unfold takeC
    rw[if_neg (show nFN≠nN by decide),if_neg (show nFN≠nCAT by decide),show Tx.plain [97,92,44,98]=some [97,44,98] by decide]
    rfl
  have h2:runK ({ noneC with name:=[97,44,98] },[]++[nFN]) [([],nIMPP,[],[120,109,112,112,58,65,64,72])]=(0,({ noneC with name:=[97,44,98],jid:=[97,64,104] },[]++[nFN]++[nIMPP])):=by
    refine run_known (p:=([],nIMPP,[],[120,109,112,112,58,65,64,72])) (by decide) ?_
    unfold takeC
    rw[if_neg (show nIMPP≠nN by decide),if_neg (show nIMPP≠nCAT by decide),show Tx.plain [120,109,112,112,58,65,64,72]=some [120,109,112,112,58,65,64,72] by decide]
    simp only
    rw[if_pos trivial,show List.drop 5 [120,109,112,112,58,65,64,72]=([65,64,72]:List UInt8) from rfl,bare_AH]
    rfl
  have h3:runK ({ noneC with name:=[97,44,98],jid:=[97,64,104] },[]++[nFN]++[nIMPP]) [([],[88],[],[121])]=(0,(awC,[]++[nFN]++[nIMPP])):=run_other _ _ _ (fun p hp=>by rw[List.mem_singleton] at hp;subst hp;decide)
  have h:runK (noneC,[]) awL=(0,(awC,[]++[nFN]++[nIMPP])):=by
    show runK (noneC,[]) ([([],nFN,[],[97,92,44,98])]++([([],nIMPP,[],[120,109,112,112,58,65,64,72])]++[([],[88],[],[121])]))=_
    rw[run_append _ _ _ _ h1,run_append _ _ _ _ h2,h3]
  unfold ofL
  rw[h]
  simp only
  rw[if_pos trivial,aw_right,if_pos rfl]
def litC:List (List UInt8 × List UInt8)→List Value
  | []=>[]
  | x::t=>.string ⟨#[]⟩::.string (bts x.1)::.slice none 0 0::.string (bts x.2)::litC t
def litP (l:List (List UInt8 × List UInt8)):List Pr:=l.map fun x=>([],x.1,[],x.2)
theorem litC_get:∀ {l:List (List UInt8 × List UInt8)} {i j:Nat} {x:List UInt8 × List UInt8},l[i]?=some x→j < 4→(litC l)[i*4+j]?=([.string ⟨#[]⟩,.string (bts x.1),.slice none 0 0,.string (bts x.2)]:List Value)[j]?
  | [],i,j,x,h,_=>by simp at h
  | y::t,0,j,x,h,hj=>by
    obtain rfl:y=x:=by simpa using h
    match j,hj with
    | 0,_=>rfl
    | 1,_=>rfl
    | 2,_=>rfl
    | 3,_=>rfl
  | y::t,i+1,j,x,h,hj=>by
    have ih:=litC_get (l:=t) (i:=i) (j:=j) (x:=x) (by simpa using h) hj
    rw[← ih,show (i+1)*4+j=i*4+j+4 by omega]
    rfl
theorem seen_lit {w:World} {g:Nat} {l:List (List UInt8 × List UInt8)} (h:Bk w g 41 (litC l).toArray) (c:Nat):SeenP w (.slice (some ⟨g,0,none⟩) l.length c) (litP l):=by
  have hl:(litP l).length=l.length:=List.length_map ..
  refine⟨some ⟨g,0,none⟩,c,by rw[hl],fun h0=>⟨⟨g,0,none⟩,rfl,h.lt,fun i x hi=>⟨.slice none 0 0,?_,?_⟩⟩⟩
  · unfold litP at hi
    rw[List.getElem?_map] at hi
    obtain⟨y,hy,rfl⟩:=Option.map_eq_some_iff.1 hi
    have hc:∀ j,j < 4→w.cell? ⟨g,i*4+j,none⟩=([.string ⟨#[]⟩,.string (bts y.1),.slice none 0 0,.string (bts y.2)]:List Value)[j]?:=fun j hj=>by
      rw[h.cell,List.getElem?_toArray]
      exact litC_get hy hj
    rw[add_at,Nat.zero_add]
    exact⟨hc 0 (by decide),hc 1 (by decide),hc 2 (by decide),hc 3 (by decide)⟩
  · unfold litP at hi
    rw[List.getElem?_map] at hi
    obtain⟨y,hy,rfl⟩:=Option.map_eq_some_iff.1 hi
    exact⟨none,0,rfl,fun h=>absurd h (Nat.not_lt_zero _)⟩
theorem of_lit {w W1:World} {l:List (List UInt8 × List UInt8)} (hO:OkwV w) (hW:W1=w.alloc (.cells (litC l).toArray 41)) (c:Nat) (hc:costC (litP l)≤90000) {d:Con} {n:Nat} (hd:ofL (litP l)=(d,n)) :
    Calls Tryz.prog 11 #[.slice (some ⟨w.heap.size,0,none⟩) l.length c] W1 fun e w'=>(∃ g o,e=.returned (.tuple #[agC d g o,.int .i64 n])∧ReadT w'.heap.size w' g (sts d.groups)∧SeenP w' o d.other)∧Below w.heap.size w w':=by
  subst hW
  have b1:Below w.heap.size w (w.alloc (.cells (litC l).toArray 41)):=(Below.refl _ _).alloc (Nat.le_refl _) _
  have h:=of_cany (.slice (some ⟨w.heap.size,0,none⟩) l.length c) (litP l) (w.alloc (.cells (litC l).toArray 41)) (hO.below b1) (seen_lit (Bk.new _ _ _) c) hc
  refine h.mono fun e w' ⟨⟨cv,h1,h2⟩,h3⟩=>⟨?_,b1.trans (h3.mono b1.size)⟩
  rw[of_way,hd] at h1 h2
  obtain⟨g,o,rfl,h4,h5⟩:=h2
  exact⟨g,o,h1,h4,h5⟩
set_option maxHeartbeats 4000000 in
set_option maxRecDepth 100000 in
theorem cawake_any (W:World) (hO:OkwV W):Calls Tryz.prog 10 #[] W fun e w'=>e=.returned (.bool true)∧Below W.heap.size W w':=by
  obtain⟨W1,hW1⟩:∃ W1,W.alloc (.cells #[.string ⟨#[]⟩,.string ⟨#[70,78]⟩,.slice none 0 0,.string ⟨#[97,92,44,98]⟩,.string ⟨#[]⟩,.string ⟨#[73,77,80,80]⟩,.slice none 0 0,.string ⟨#[120,109,112,112,58,65,64,72]⟩,.string ⟨#[]⟩,.string ⟨#[88]⟩,.slice none 0 0,.string ⟨#[121]⟩] 41)=W1:=⟨_,rfl⟩
  have HOF:=Lib.hid (of_lit (l:=[(nFN,[97,92,44,98]),(nIMPP,[120,109,112,112,58,65,64,72]),([88],[121])]) hO hW1.symm 3 (by decide) aw_of)
  have HR:=Lib.hid (fun gv o w (h:Below W.heap.size W w) (hg:ReadT w.heap.size w gv (sts awC.groups)) (ho:ReadP w o awC.other)=>right_cany awC gv o w (hO.below h) hg ho ⟨by decide,⟨by decide,by decide⟩,by decide⟩)
  rw[aw_right] at HR
  obtain⟨P,hP⟩:∃ P,W.heap.size=P:=⟨_,rfl⟩
  rw[hP] at HOF
  clear hO
  go_enter Tryz.func10,Tryz.ntmps10
  go_wp2_with fail
  refine HOF.out.mono ?_
  rintro e w1 ⟨⟨g,o,rfl,hg,ho⟩,b1⟩
  have HG:=Lib.hid hg
  have HO:=Lib.hid ho
  obtain⟨GA,gn,gcap,rfl⟩:∃ A n cap,g=.slice A n cap:=by obtain⟨A,cap,e,_⟩:=hg;exact⟨A,_,cap,e⟩
  obtain⟨OA,ocap,rfl⟩:∃ A cap,o=.slice A 1 cap:=by obtain⟨A,cap,e,_⟩:=ho;exact⟨A,cap,e⟩
  have hag:agC awC (.slice GA gn gcap) (.slice OA 1 ocap)=.agg #[.string ⟨#[97,44,98]⟩,.string ⟨#[]⟩,.string ⟨#[]⟩,.string ⟨#[]⟩,.string ⟨#[97,64,104]⟩,.string ⟨#[]⟩,.string ⟨#[]⟩,.string ⟨#[]⟩,.string ⟨#[]⟩,.slice GA gn gcap,.slice OA 1 ocap]:=rfl
  rw[hag]
  have HAG:=Lib.hid hag
  have B1:Hid (Below W.heap.size W w1):=by rw[hP];exact b1
  clear hg ho hag b1
  go_upto_region 2 with fail
  obtain⟨w2,hw2⟩:∃ w2,w1.alloc (.cells #[.string ⟨#[97,44,98]⟩,.string ⟨#[]⟩,.string ⟨#[]⟩,.string ⟨#[]⟩,.string ⟨#[97,64,104]⟩,.string ⟨#[]⟩,.string ⟨#[]⟩,.string ⟨#[]⟩,.string ⟨#[]⟩,.slice GA gn gcap,.slice OA 1 ocap] 25)=w2:=⟨_,rfl⟩
  have b2:Below w1.heap.size w1 w2:=by rw[← hw2];exact(Below.refl _ _).alloc (Nat.le_refl _) _
  have B2:Hid (Below W.heap.size W w2):=B1.out.trans (b2.mono B1.out.size)
  obtain⟨Q,hQ⟩:∃ Q,w1.heap.size=Q:=⟨_,rfl⟩
  have k2:Bk w2 Q 25 #[.string ⟨#[97,44,98]⟩,.string ⟨#[]⟩,.string ⟨#[]⟩,.string ⟨#[]⟩,.string ⟨#[97,64,104]⟩,.string ⟨#[]⟩,.string ⟨#[]⟩,.string ⟨#[]⟩,.string ⟨#[]⟩,.slice GA gn gcap,.slice OA 1 ocap]:=by rw[← hw2,← hQ];exact Bk.new _ _ _
  have HRR:=HR.out _ _ w2 B2.out (HG.out.upon b2) (HO.out.below b2).reads
  rw[HAG.out] at HRR
  have HRX:=Lib.hid HRR
  have q0:=k2.cell 0
  have q1:=k2.cell 1
  have q2:=k2.cell 2
  have q3:=k2.cell 3
  have q4:=k2.cell 4
  have q5:=k2.cell 5
  have q6:=k2.cell 6
  have q7:=k2.cell 7
  have q8:=k2.cell 8
  have q9:=k2.cell 9
  have q10:=k2.cell 10
  rw[hw2,hQ]
  clear hw2 hQ b2 k2 HRR
  go_wp2_with fail
  refine HRX.out.mono ?_
  rintro e w3 ⟨rfl,b3⟩
  go_wp2_with fail
  go_ret
  exact⟨rfl,by first | exact B2.out.trans (b3.mono B2.out.size) | (rw[← hP];exact B2.out.trans (b3.mono B2.out.size))⟩
end Go.Proofs.YtfbdnaclkfmiaaaGreatDoor
import Derived.Test.YtfbdnaclkfmiaaaGreatDoorB39
import Derived.Deep.RegionWith
namespace Go.Proofs.YtfbdnaclkfmiaaaGreatDoor
open Go.RowKit Vc Ct
theorem cost_in:∀ {c:List Pr} {p:Pr},p∈c→costP p≤costC c
  | x::t,p,h=>by
    rw[costC_cons]
    rcases List.mem_cons.1 h with rfl | h
    · omega
    · have:=cost_in h;omega
def OfV (l:List Pr) (e:Ending) (w':World):Prop:=∃ cv,e=.returned (.tuple #[cv,.int .i64 ((ofF l).2:Nat)])∧SeenC w' cv (ofF l).1
structure Half (W:World) (g:Nat) (cur:Con) (gv:Value) (ks:List Nat) (wr:World):Prop where
  at_:Bk wr g 25 (conCells cur gv (.slice none 0 0))
  own:OwnT (g+1) wr gv (sts cur.groups)
  six:6 ∉ ks→gv=.slice none 0 0∧cur.groups=[]
  low:Low 100000 cur
  bel:Below W.heap.size W wr
abbrev laid11 (w:World) (q:Nat) (c0 c1 c2 c3 c4 c5 c6 c7 c8 c9 c10:Value):World:=((((((((((w.setCell ⟨q,0,none⟩ c0).setCell ⟨q,1,none⟩ c1).setCell ⟨q,2,none⟩ c2).setCell ⟨q,3,none⟩ c3).setCell ⟨q,4,none⟩ c4).setCell ⟨q,5,none⟩ c5).setCell ⟨q,6,none⟩ c6).setCell ⟨q,7,none⟩ c7).setCell ⟨q,8,none⟩ c8).setCell ⟨q,9,none⟩ c9).setCell ⟨q,10,none⟩ c10
theorem laid11_bk {w:World} {q:Nat} {T:TypeId} {a0 a1 a2 a3 a4 a5 a6 a7 a8 a9 a10:Value} (h:Bk w q T #[a0,a1,a2,a3,a4,a5,a6,a7,a8,a9,a10]) (c0 c1 c2 c3 c4 c5 c6 c7 c8 c9 c10:Value):Bk (laid11 w q c0 c1 c2 c3 c4 c5 c6 c7 c8 c9 c10) q T #[c0,c1,c2,c3,c4,c5,c6,c7,c8,c9,c10]:=by
  have h0:Bk (w.setCell ⟨q,0,none⟩ c0) q T #[c0,a1,a2,a3,a4,a5,a6,a7,a8,a9,a10]:=h.put 0 c0
  have h1:Bk ((w.setCell ⟨q,0,none⟩ c0).setCell ⟨q,1,none⟩ c1) q T #[c0,c1,a2,a3,a4,a5,a6,a7,a8,a9,a10]:=h0.put 1 c1
  have h2:Bk (((w.setCell ⟨q,0,none⟩ c0).setCell ⟨q,1,none⟩ c1).setCell ⟨q,2,none⟩ c2) q T #[c0,c1,c2,a3,a4,a5,a6,a7,a8,a9,a10]:=h1.put 2 c2
  have h3:Bk ((((w.setCell ⟨q,0,none⟩ c0).setCell ⟨q,1,none⟩ c1).setCell ⟨q,2,none⟩ c2).setCell ⟨q,3,none⟩ c3) q T #[c0,c1,c2,c3,a4,a5,a6,a7,a8,a9,a10]:=h2.put 3 c3
  have h4:Bk (((((w.setCell ⟨q,0,none⟩ c0).setCell ⟨q,1,none⟩ c1).setCell ⟨q,2,none⟩ c2).setCell ⟨q,3,none⟩ c3).setCell ⟨q,4,none⟩ c4) q T #[c0,c1,c2,c3,c4,a5,a6,a7,a8,a9,a10]:=h3.put 4 c4
  have h5:Bk ((((((w.setCell ⟨q,0,none⟩ c0).setCell ⟨q,1,none⟩ c1).setCell ⟨q,2,none⟩ c2).setCell ⟨q,3,none⟩ c3).setCell ⟨q,4,none⟩ c4).setCell ⟨q,5,none⟩ c5) q T #[c0,c1,c2,c3,c4,c5,a6,a7,a8,a9,a10]:=h4.put 5 c5
  have h6:Bk (((((((w.setCell ⟨q,0,none⟩ c0).setCell ⟨q,1,none⟩ c1).setCell ⟨q,2,none⟩ c2).setCell ⟨q,3,none⟩ c3).setCell ⟨q,4,none⟩ c4).setCell ⟨q,5,none⟩ c5).setCell ⟨q,6,none⟩ c6) q T #[c0,c1,c2,c3,c4,c5,c6,a7,a8,a9,a10]:=h5.put 6 c6
  have h7:Bk ((((((((w.setCell ⟨q,0,none⟩ c0).setCell ⟨q,1,none⟩ c1).setCell ⟨q,2,none⟩ c2).setCell ⟨q,3,none⟩ c3).setCell ⟨q,4,none⟩ c4).setCell ⟨q,5,none⟩ c5).setCell ⟨q,6,none⟩ c6).setCell ⟨q,7,none⟩ c7) q T #[c0,c1,c2,c3,c4,c5,c6,c7,a8,a9,a10]:=h6.put 7 c7
  have h8:Bk (((((((((w.setCell ⟨q,0,none⟩ c0).setCell ⟨q,1,none⟩ c1).setCell ⟨q,2,none⟩ c2).setCell ⟨q,3,none⟩ c3).setCell ⟨q,4,none⟩ c4).setCell ⟨q,5,none⟩ c5).setCell ⟨q,6,none⟩ c6).setCell ⟨q,7,none⟩ c7).setCell ⟨q,8,none⟩ c8) q T #[c0,c1,c2,c3,c4,c5,c6,c7,c8,a9,a10]:=h7.put 8 c8
  have h9:Bk ((((((((((w.setCell ⟨q,0,none⟩ c0).setCell ⟨q,1,none⟩ c1).setCell ⟨q,2,none⟩ c2).setCell ⟨q,3,none⟩ c3).setCell ⟨q,4,none⟩ c4).setCell ⟨q,5,none⟩ c5).setCell ⟨q,6,none⟩ c6).setCell ⟨q,7,none⟩ c7).setCell ⟨q,8,none⟩ c8).setCell ⟨q,9,none⟩ c9) q T #[c0,c1,c2,c3,c4,c5,c6,c7,c8,c9,a10]:=h8.put 9 c9
  have h10:Bk (((((((((((w.setCell ⟨q,0,none⟩ c0).setCell ⟨q,1,none⟩ c1).setCell ⟨q,2,none⟩ c2).setCell ⟨q,3,none⟩ c3).setCell ⟨q,4,none⟩ c4).setCell ⟨q,5,none⟩ c5).setCell ⟨q,6,none⟩ c6).setCell ⟨q,7,none⟩ c7).setCell ⟨q,8,none⟩ c8).setCell ⟨q,9,none⟩ c9).setCell ⟨q,10,none⟩ c10) q T #[c0,c1,c2,c3,c4,c5,c6,c7,c8,c9,c10]:=h9.put 10 c10
  exact h10
theorem laid11_below {B:Nat} {w w':World} {q:Nat} (h:Below B w w') (hB:B≤q) (c0 c1 c2 c3 c4 c5 c6 c7 c8 c9 c10:Value):Below B w (laid11 w' q c0 c1 c2 c3 c4 c5 c6 c7 c8 c9 c10):=by
  have h0:=Below.setCell (p:=⟨q,0,none⟩) h hB c0
  have h1:=Below.setCell (p:=⟨q,1,none⟩) h0 hB c1
  have h2:=Below.setCell (p:=⟨q,2,none⟩) h1 hB c2
  have h3:=Below.setCell (p:=⟨q,3,none⟩) h2 hB c3
  have h4:=Below.setCell (p:=⟨q,4,none⟩) h3 hB c4
  have h5:=Below.setCell (p:=⟨q,5,none⟩) h4 hB c5
  have h6:=Below.setCell (p:=⟨q,6,none⟩) h5 hB c6
  have h7:=Below.setCell (p:=⟨q,7,none⟩) h6 hB c7
  have h8:=Below.setCell (p:=⟨q,8,none⟩) h7 hB c8
  have h9:=Below.setCell (p:=⟨q,9,none⟩) h8 hB c9
  have h10:=Below.setCell (p:=⟨q,10,none⟩) h9 hB c10
  exact h10
theorem putV_func (b:Nat→Nat) (i:Nat):∃ F cb,putV b i=.func (.func F) #[] cb:=by unfold putV;split<;>exact⟨_,_,rfl⟩
theorem textsV_func (b:Nat→Nat) (i:Nat):∃ F cb,textsV b i=.func (.func F) #[] cb:=by unfold textsV;split<;>exact⟨_,_,rfl⟩
theorem but_set (w:World) (q o:Nat) (u:Value):But (·=q) w (w.setCell ⟨q,o,none⟩ u) :=
  have b:=Below.setCell (p:=⟨q,o,none⟩) (Below.refl q w) (Nat.le_refl q) u
  ⟨b.os,b.tape,b.output,b.size,fun _ _ hn=>Below.heap_setCell _ _ _ _ hn⟩
theorem laid11_but (w:World) (q:Nat) (c0 c1 c2 c3 c4 c5 c6 c7 c8 c9 c10:Value):But (·=q) w (laid11 w q c0 c1 c2 c3 c4 c5 c6 c7 c8 c9 c10) :=
  (((((((((((but_set _ q 0 c0).trans (but_set _ q 1 c1)).trans (but_set _ q 2 c2)).trans (but_set _ q 3 c3)).trans (but_set _ q 4 c4)).trans (but_set _ q 5 c5)).trans (but_set _ q 6 c6)).trans (but_set _ q 7 c7)).trans (but_set _ q 8 c8)).trans (but_set _ q 9 c9)).trans (but_set _ q 10 c10))
theorem OwnP.butq {B q:Nat} {w w':World} {v:Value} {ps:List Pr} {T:TypeId} {cs:Array Value} (h:OwnP B w v ps) (hb:But (·=q) w w') (hq:q < B) (hk:Bk w q T cs) (hT : 48≠T):OwnP B w' v ps:=by
  obtain⟨ks,h1,h2,h3⟩:=h
  exact⟨ks,h1,row_but h2 hb (fun i hi e=>by omega),fun k hk2=>(h3 k hk2).keep fun j ds hj=>hb.bk hj (fun e=>Bk.type_ne hj hk hT e)⟩
theorem OwnT.butq {B q:Nat} {w w':World} {v:Value} {x:List ByteArray} (h:OwnT B w v x) (hb:But (·=q) w w') (hq:q < B):OwnT B w' v x :=
  h.kept fun j hj=>hb.block j (h.low hj).2 (by have:=(h.low hj).1;omega)
theorem others_in:∀ (l:List Pr) (p:Pr),p∈(findF allK l).2→p∈l:=by
  have:∀ (l:List Pr) (free:List Nat) (p:Pr),p∈(findF free l).2→p∈l:=by
    intro l
    induction l with
    | nil=>intro free p h;simp[findF] at h
    | cons q t ih =>
      intro free p h
      rw[findF] at h
      split at h
      · rcases List.mem_cons.1 h with rfl | h
        · exact List.mem_cons_self
        · exact List.mem_cons_of_mem _ (ih _ _ h)
      · exact List.mem_cons_of_mem _ (ih _ _ h)
  exact fun l p=>this l allK p
theorem fns_cells {b:Nat→Nat} {B:Nat} {w:World} {A:Option Addr} {n cap:Nat} {fs:List (Nat × PrV)} (h:w.ownsRow B 70 9 (.slice A n cap) n (fns b fs)) (h0:0 < n):∃ ad:Addr,A=some ad∧B≤ad.block∧ad.block < w.heap.size∧∀ k x,fs[k]?=some x→w.cell? (ad.add (k*9))=(encF b x)[0]?∧∀ j,j < 9→w.cell? ⟨(ad.add (k*9)).block,(ad.add (k*9)).off+j,none⟩=(encF b x)[j]?:=by
  rcases h.2 with ⟨e,h1⟩ | ⟨g,cap2,cur,e,hg,hh,h1,h2,h3,h4⟩
  · omega
  · injection e with e1 e2 e3
    subst e1
    refine⟨_,rfl,hg,lt_of_block hh,fun k x hk=>?_⟩
    have hc:∀ j,j < 9→w.cell? ⟨g,k*9+j,none⟩=(encF b x)[j]?:=fun j hj=>by
      have hlt:j < (encF b x).length:=by rw[encF_len];exact hj
      have:=h.cells (g:=g) rfl (k*9+j) (encF b x)[j] (by rw[fns_get b hk hj,List.getElem?_eq_getElem hlt])
      rw[add_at,Nat.zero_add] at this
      rw[this,List.getElem?_eq_getElem hlt]
    constructor
    · rw[add_at,Nat.zero_add]
      exact hc 0 (by decide)
    · intro j hj
      rw[add_at,Nat.zero_add]
      exact hc j hj
set_option maxHeartbeats 8000000 in
set_option maxRecDepth 100000 in
theorem of_cany (v:Value) (l:List Pr) (W:World) (hO:OkwV W) (hR:SeenP W v l) (hc:costC l≤90000) :
    Calls Tryz.prog 11 #[v] W fun e w'=>OfV l e w'∧Below W.heap.size W w':=by
  have hlen:l.length≤90000:=by
    have:∀ m:List Pr,m.length≤costC m:=by
      intro m
      induction m with
      | nil=>exact Nat.zero_le _
      | cons p t ih=>rw[costC_cons,List.length_cons];unfold costP;omega
    exact Nat.le_trans (this l) hc
  have hpar:∀ m:List Att,m.length≤parN m:=by
    intro m
    induction m with
    | nil=>exact Nat.zero_le _
    | cons p t ih=>rw[parN_cons,List.length_cons];omega
  have hfew:∀ p∈l,p.2.2.1.length≤1000000000∧p.2.2.2.length < 100000:=fun p hp=>by
    have h1:=cost_in hp
    have h2:=hpar p.2.2.1
    unfold costP at h1
    exact⟨by omega,by omega⟩
  clear hpar
  obtain⟨r0,hr0⟩:∃ r,W.heap.size=r:=⟨_,rfl⟩
  obtain⟨Wa,hWa⟩:∃ Wa,W.alloc (.cells #[.string ⟨#[]⟩,.string ⟨#[]⟩,.string ⟨#[]⟩,.string ⟨#[]⟩,.string ⟨#[]⟩,.string ⟨#[]⟩,.string ⟨#[]⟩,.string ⟨#[]⟩,.string ⟨#[]⟩,.slice none 0 0,.slice none 0 0] 25)=Wa:=⟨_,rfl⟩
  obtain⟨g,hg⟩:∃ r,Wa.heap.size=r:=⟨_,rfl⟩
  obtain⟨Wb,hWb⟩:∃ Wb,Wa.alloc (.cells #[.string ⟨#[]⟩,.string ⟨#[]⟩,.string ⟨#[]⟩,.string ⟨#[]⟩,.string ⟨#[]⟩,.string ⟨#[]⟩,.string ⟨#[]⟩,.string ⟨#[]⟩,.string ⟨#[]⟩,.slice none 0 0,.slice none 0 0] 25)=Wb:=⟨_,rfl⟩
  have ba:Below W.heap.size W Wa:=by rw[← hWa];exact(Below.refl _ _).alloc (Nat.le_refl _) _
  have bb:Below W.heap.size W Wb:=by rw[← hWb];exact ba.alloc ba.size _
  have ka:Bk Wa r0 25 (conCells noneC (.slice none 0 0) (.slice none 0 0)):=by rw[← hWa,← hr0];exact Bk.new _ _ _
  have kb:Bk Wb g 25 (conCells noneC (.slice none 0 0) (.slice none 0 0)):=by rw[← hWb,← hg];exact Bk.new _ _ _
  have kr:Bk Wb r0 25 (conCells noneC (.slice none 0 0) (.slice none 0 0)):=by
    refine ka.below (B:=Wa.heap.size) ?_ ka.lt
    rw[← hWb]
    exact(Below.refl _ _).alloc (Nat.le_refl _) _
  have hrg:r0 < g:=by have:=ka.lt;omega
  have hgb:g < Wb.heap.size:=kb.lt
  have HKB:=Lib.hid kb
  have HKR0:=Lib.hid kr
  have HBB:=Lib.hid bb
  have HR0:=Lib.hid hrg
  have HG0:=Lib.hid hgb
  have HW0:=Lib.hid hr0
  have HO:=Lib.hid hO
  have HR:=Lib.hid hR
  have HFEW:=Lib.hid hfew
  have HLN:=Lib.hid hlen
  have HCO:=Lib.hid hc
  have HKI:=Lib.hid (kinds_any Wb)
  clear hO hR hfew hlen hc ba bb ka kb kr hrg hgb
  obtain⟨VA,vn,vcap,rfl⟩:∃ A n cap,v=.slice A n cap:=by obtain⟨A,cap,e,_⟩:=HR.out;exact⟨A,_,cap,e⟩
  go_enter Tryz.func11,Tryz.ntmps11
  go_wp2_with fail
  refine HKI.out.mono ?_
  rintro e w3 ⟨⟨b,gk,rfl,hgk,hkk,hka,-⟩,b3⟩
  have HFI:=Lib.hid (find_any b gk (.slice VA vn vcap) l w3 W (HBB.out.trans (b3.mono HBB.out.size)) hkk HR.out (by have:=HLN.out;omega) (fun p hp=>(HFEW.out p hp).1))
  have B3:=Lib.hid b3
  have HKA:=Lib.hid hka
  clear b3 hkk hka hgk
  go_wp2_with fail
  refine HFI.out.mono ?_
  rintro e w4 ⟨⟨fv,ov,zs,rfl,fs,os,hfo,hrf,hro,hsf,hso⟩,b4⟩
  obtain⟨FA,fcap,rfl⟩:=row_slice hrf
  obtain⟨OA,ocap,rfl⟩:=row_slice hro
  obtain⟨n,hn⟩:∃ n,fs.length=n:=⟨_,rfl⟩
  obtain⟨m,hm⟩:∃ m,os.length=m:=⟨_,rfl⟩
  obtain⟨gs,hgs⟩:∃ gs,fs.map (fun x=>(x.1,x.2.1))=gs:=⟨_,rfl⟩
  have hgl:gs.length=n:=by rw[← hgs,List.length_map,hn]
  rw[hn] at hrf ⊢
  rw[hm] at hro ⊢
  have hnd:(gs.map (·.1)).Nodup:=by
    have:=found_nodup l
    rw[hfo,hgs] at this
    exact(List.nodup_append.1 this).1
  have hmem:∀ x∈gs,x.1 < 9∧hasB x.1 x.2=true∧x.2∈l:=by
    have:=found_mem l
    rw[hfo,hgs] at this
    exact this
  have hall:findF allK l=(gs,os.map (·.1)):=by rw[← found_all,hfo,hgs]
  have hco:costC (os.map (·.1))≤90000:=by
    have:=cost_found l
    rw[hfo] at this
    exact Nat.le_trans this HCO.out
  have hn9:n≤90000:=by have:=(fs_lens hfo).1;have:=HLN.out;omega
  have hm9:m≤90000:=by have:=(fs_lens hfo).2;have:=HLN.out;omega
  have b04:Below W.heap.size W w4:=(HBB.out.trans (B3.out.mono HBB.out.size)).trans (b4.mono (by have:=HBB.out.size;have:=B3.out.size;omega))
  have bb4:Below Wb.heap.size Wb w4:=B3.out.trans (b4.mono B3.out.size)
  have HRF:=Lib.hid hrf
  have HRO:=Lib.hid hro
  have HSF:=Lib.hid hsf
  have HSO:=Lib.hid hso
  have HFO:=Lib.hid hfo
  have HN:=Lib.hid hn
  have HM:=Lib.hid hm
  have HGS:=Lib.hid hgs
  have HGL:=Lib.hid hgl
  have HND:=Lib.hid hnd
  have HME:=Lib.hid hmem
  have HAL:=Lib.hid hall
  have HCS:=Lib.hid hco
  have HN9:=Lib.hid hn9
  have HM9:=Lib.hid hm9
  have B4:=Lib.hid b04
  have BB4:=Lib.hid bb4
  have HFR:=Lib.hid b4
  have HH0:Hid (Half W g noneC (.slice none 0 0) ((gs.take 0).map (·.1)) w4):=⟨HKB.out.below bb4 HG0.out,OwnT.nil _ _,fun _=>⟨rfl,rfl⟩,low_none _,b04⟩
  have HU0:Hid (But (·=g) w4 w4):=But.refl _ _
  have HT0:Hid (runR noneC (gs.take 0)=(0,noneC)):=rfl
  clear hrf hro hsf hso hfo hn hm hgs hgl hnd hmem hall hco b04 bb4 b4
  go_wp2_with fail
  go_loopw [18] (fun iv wr=>∃ (k:Nat) (cur:Con) (gv:Value),iv=.int .i64 k∧k≤n∧Hid (runR noneC (gs.take k)=(0,cur))∧Hid (Half W g cur gv ((gs.take k).map (·.1)) wr)∧Hid (But (·=g) w4 wr)) (fun iv _=>n - (intOf iv).toNat)
  case atStart=>exact⟨0,noneC,.slice none 0 0,rfl,Nat.zero_le _,HT0,HH0,HU0⟩
  case round =>
    obtain⟨k,cur,gv,rfl,hk,HT,HH,HU⟩:=hrel
    have hgw:Hid (g < w3.heap.size∧g < w4.heap.size∧w4.heap.size≤wr.heap.size):=by
      have h1:=HG0.out;have h2:=B3.out.size;have h3:=BB4.out.size;have h4:=HU.out.size;unfold Hid;omega
    have hrow:wr.ownsRow w3.heap.size 70 9 (.slice FA n fcap) n (fns b fs):=row_but HRF.out HU.out (fun i hi e=>by have:=hgw.out;omega)
    by_cases hlt:k < n
    · obtain⟨⟨i,p,u⟩,hx⟩:∃ x,fs[k]?=some x:=⟨_,List.getElem?_eq_getElem (by rw[HN.out];exact hlt)⟩
      have hgx:gs[k]?=some (i,p):=by rw[← HGS.out,List.getElem?_map,hx];rfl
      obtain⟨ad,rfl,-,hadl,hcell⟩:=fns_cells hrow (by omega)
      obtain⟨hc0,hcs⟩:=hcell k _ hx
      obtain⟨hi9,hhas,hpl⟩:=HME.out _ (List.mem_of_getElem? hgx)
      have hi9':i < 9:=hi9
      have hpv:=HFEW.out p hpl
      have hstart:p.2.2.2.take (kstart i).length=kstart i:=by
        have h:=hhas
        unfold hasB at h
        simp only[Bool.and_eq_true,decide_eq_true_eq] at h
        exact h.2
      have hsix:i=6→gv=.slice none 0 0∧cur.groups=[]:=fun e=>HH.out.six (by have:=kind_fresh HND.out hgx;rw[e] at this;exact this)
      obtain⟨x0,e0⟩:∃ a,bts (kname i)=a:=⟨_,rfl⟩
      obtain⟨x1,e1⟩:∃ a,bts (kstart i)=a:=⟨_,rfl⟩
      obtain⟨x2,e2⟩:∃ a,bts (ksep i)=a:=⟨_,rfl⟩
      obtain⟨G3,G3c,e3⟩:=putV_func b i
      obtain⟨G4,G4c,e4⟩:=textsV_func b i
      have hsu:=HSF.out _ (List.mem_of_getElem? hx)
      obtain⟨UA,un,ucap,rfl⟩:∃ A n cap,u=.slice A n cap:=by obtain⟨A,cap,e,_⟩:=hsu;exact⟨A,_,cap,e⟩
      obtain⟨y0,e5⟩:∃ a,bts p.1=a:=⟨_,rfl⟩
      obtain⟨y1,e6⟩:∃ a,bts p.2.1=a:=⟨_,rfl⟩
      obtain⟨y3,e7⟩:∃ a,bts p.2.2.2=a:=⟨_,rfl⟩
      have hek:encK b i=[.string x0,.string x1,.string x2,(.func (.func G3) #[] G3c),(.func (.func G4) #[] G4c)]:=by rw[← e0,← e1,← e2,← e3,← e4];rfl
      have hef:encF b (i,p,Value.slice UA un ucap)=[.string x0,.string x1,.string x2,(.func (.func G3) #[] G3c),(.func (.func G4) #[] G4c),.string y0,.string y1,.slice UA un ucap,.string y3]:=by unfold encF;rw[hek,← e5,← e6,← e7];rfl
      rw[hef] at hc0 hcs
      have z0:wr.cell? (ad.add (k*9))=some (.string x0):=hc0
      have z1:wr.cell? ⟨(ad.add (k*9)).block,(ad.add (k*9)).off+1,none⟩=some (.string x1):=hcs 1 (by decide)
      have z2:wr.cell? ⟨(ad.add (k*9)).block,(ad.add (k*9)).off+2,none⟩=some (.string x2):=hcs 2 (by decide)
      have z3:wr.cell? ⟨(ad.add (k*9)).block,(ad.add (k*9)).off+3,none⟩=some (.func (.func G3) #[] G3c):=hcs 3 (by decide)
      have z4:wr.cell? ⟨(ad.add (k*9)).block,(ad.add (k*9)).off+4,none⟩=some (.func (.func G4) #[] G4c):=hcs 4 (by decide)
      have z5:wr.cell? ⟨(ad.add (k*9)).block,(ad.add (k*9)).off+5,none⟩=some (.string y0):=hcs 5 (by decide)
      have z6:wr.cell? ⟨(ad.add (k*9)).block,(ad.add (k*9)).off+6,none⟩=some (.string y1):=hcs 6 (by decide)
      have z7:wr.cell? ⟨(ad.add (k*9)).block,(ad.add (k*9)).off+7,none⟩=some (.slice UA un ucap):=hcs 7 (by decide)
      have z8:wr.cell? ⟨(ad.add (k*9)).block,(ad.add (k*9)).off+8,none⟩=some (.string y3):=hcs 8 (by decide)
      obtain⟨tb,htb⟩:∃ tb,wr.heap.size=tb:=⟨_,rfl⟩
      obtain⟨W5,hW5⟩:∃ W5,wr.alloc (.cells #[.string x0,.string x1,.string x2,(.func (.func G3) #[] G3c),(.func (.func G4) #[] G4c),.string y0,.string y1,.slice UA un ucap,.string y3] 70)=W5:=⟨_,rfl⟩
      have b5:Below wr.heap.size wr W5:=by rw[← hW5];exact(Below.refl _ _).alloc (Nat.le_refl _) _
      have k5:Bk W5 tb 70 #[.string x0,.string x1,.string x2,(.func (.func G3) #[] G3c),(.func (.func G4) #[] G4c),.string y0,.string y1,.slice UA un ucap,.string y3]:=by rw[← hW5,← htb];exact Bk.new _ _ _
      have t0:W5.cell? ⟨tb,0,none⟩=some (.string x0):=k5.cell 0
      have t1:W5.cell? ⟨tb,1,none⟩=some (.string x1):=k5.cell 1
      have t2:W5.cell? ⟨tb,2,none⟩=some (.string x2):=k5.cell 2
      have t3:W5.cell? ⟨tb,3,none⟩=some (.func (.func G3) #[] G3c):=k5.cell 3
      have t4:W5.cell? ⟨tb,4,none⟩=some (.func (.func G4) #[] G4c):=k5.cell 4
      have t8:W5.cell? ⟨tb,8,none⟩=some (.string y3):=k5.cell 8
      have hgr:g < wr.heap.size:=HH.out.at_.lt
      have b05:Below W.heap.size W W5:=HH.out.bel.trans (b5.mono HH.out.bel.size)
      have hka5:KindsAt b W5:=fun j hj ht=>by
        have h1:=HKA.out j hj ht
        have h2:Bk w4 (b j) _ _:=h1.below HFR.out h1.lt
        exact(HU.out.bk h2 (fun e=>Bk.type_ne h2 (show Bk w4 (b j) 25 (conCells noneC (.slice none 0 0) (.slice none 0 0)) by rw[e];exact HH0.out.at_) (by decide) rfl)).below b5 (HU.out.bk h2 (fun e=>Bk.type_ne h2 (show Bk w4 (b j) 25 (conCells noneC (.slice none 0 0) (.slice none 0 0)) by rw[e];exact HH0.out.at_) (by decide) rfl)).lt
      have hown5:OwnT (g+1) W5 gv (sts cur.groups):=HH.out.own.below b5
      have hkr:=kread_any hi9' b p.2.2.2 hstart (by omega) g cur gv (.slice none 0 0) W5 (HO.out.below b05) (putAs_any hi9' (HO.out.below b05).jid (HH.out.at_.below b5 hgr) hown5 hka5 (fun e=>(hsix e).1)) (fun e=>(hsix e).2)
      have hlow:(readC i p.2.2.2 cur).1=0→Low 100000 (readC i p.2.2.2 cur).2:=low_read (fun e=>(hsix e).2) HH.out.low hpv.2 (by decide)
      have hgrp:i≠6→(readC i p.2.2.2 cur).2.groups=cur.groups:=fun e=>read_groups e _ _
      have hrun:=run_snoc (gs.take k) noneC (i,p) (by rw[HT.out])
      rw[HT.out] at hrun
      have htk:gs.take (k+1)=gs.take k++[(i,p)]:=by rw[List.take_add_one,hgx];rfl
      obtain⟨⟨rc,rr⟩,hr⟩:∃ r,readC i p.2.2.2 cur=r:=⟨_,rfl⟩
      simp only[hr] at hrun
      rw[hr] at hkr hlow hgrp
      rw[hek,e7] at hkr
      have HKR:=Lib.hid hkr
      have HLO:=Lib.hid hlow
      have HGP:=Lib.hid hgrp
      have HRN:=Lib.hid hrun
      have HTK:=Lib.hid htk
      have HB5:=Lib.hid b5
      have HGR:=Lib.hid hgr
      clear hsu hrow hx hgx hcell hc0 hcs hi9 hhas hpl hpv hstart hsix e0 e1 e2 e3 e4 e5 e6 e7 hek hef hkr hlow hgrp hrun htk b5 k5 hgr b05 hka5 hown5 hr hi9'
      go_wp2_with fail
      refine HKR.out.mono ?_
      rintro e w6 ⟨rfl,hok,hbut⟩
      have HB6:=Lib.hid hbut
      have HU6:Hid (But (·=g) w4 w6):=(HU.out.trans (But.new HB5.out)).trans hbut
      have B06:Hid (Below W.heap.size W w6):=(HH.out.bel.trans (HB5.out.mono HH.out.bel.size)).trans (hbut.below (by have:=HH.out.bel.size;have:=HB5.out.size;omega) (fun j hj e=>by have:=HR0.out;have:=HW0.out;omega))
      by_cases hz:rc=0
      · subst hz
        obtain⟨gv2,k6,o6,h66⟩:=hok rfl
        have H6:Hid (Half W g rr gv2 ((gs.take (k+1)).map (·.1)) w6):=by
          refine⟨k6,o6,fun hn6=>?_,HLO.out rfl,B06.out⟩
          rw[HTK.out,List.map_append] at hn6
          have hi6:i≠6:=fun e=>hn6 (by simp[e])
          obtain⟨q1,q2⟩:=HH.out.six (fun h=>hn6 (List.mem_append_left _ h))
          exact⟨(h66 hi6).trans q1,(HGP.out hi6).trans q2⟩
        have HT6:Hid (runR noneC (gs.take (k+1))=(0,rr)):=by unfold Hid;rw[HTK.out,HRN.out];rfl
        clear hok hbut k6 o6 h66 z0 z1 z2 z3 z4 z5 z6 z7 z8 t0 t1 t2 t3 t4 t8
        go_wp2_with fail
        go_roundw
        case rel=>exact⟨k+1,rr,gv2,by go_num,by omega,HT6,H6,HU6⟩
        case measure=>simp[intOf];omega
      · have hz2:(((rc:Nat):Int)==0)=false:=by simp;omega
        have hk6:Bk w6 r0 25 #[.string ⟨#[]⟩,.string ⟨#[]⟩,.string ⟨#[]⟩,.string ⟨#[]⟩,.string ⟨#[]⟩,.string ⟨#[]⟩,.string ⟨#[]⟩,.string ⟨#[]⟩,.string ⟨#[]⟩,.slice none 0 0,.slice none 0 0]:=HU6.out.bk (HKR0.out.below BB4.out HKR0.out.lt) (by have:=HR0.out;omega)
        have hof:ofF l=(noneC,rc):=by
          have h1:(runR noneC (gs.take (k+1))).1=rc:=by rw[HTK.out,HRN.out,if_neg hz]
          have h2:(runR noneC gs).1=rc:=by
            have:=run_stop (gs.take (k+1)) (gs.drop (k+1)) noneC (by rw[h1];exact hz)
            rw[List.take_append_drop] at this
            rw[this,h1]
          unfold ofF
          rw[HAL.out]
          simp only[h2]
          rw[if_neg hz]
        have HOF:=Lib.hid hof
        have HK6:=Lib.hid hk6
        have d0:w6.cell? ⟨r0,0,none⟩=some (.string ⟨#[]⟩):=hk6.cell 0
        have d1:w6.cell? ⟨r0,1,none⟩=some (.string ⟨#[]⟩):=hk6.cell 1
        have d2:w6.cell? ⟨r0,2,none⟩=some (.string ⟨#[]⟩):=hk6.cell 2
        have d3:w6.cell? ⟨r0,3,none⟩=some (.string ⟨#[]⟩):=hk6.cell 3
        have d4:w6.cell? ⟨r0,4,none⟩=some (.string ⟨#[]⟩):=hk6.cell 4
        have d5:w6.cell? ⟨r0,5,none⟩=some (.string ⟨#[]⟩):=hk6.cell 5
        have d6:w6.cell? ⟨r0,6,none⟩=some (.string ⟨#[]⟩):=hk6.cell 6
        have d7:w6.cell? ⟨r0,7,none⟩=some (.string ⟨#[]⟩):=hk6.cell 7
        have d8:w6.cell? ⟨r0,8,none⟩=some (.string ⟨#[]⟩):=hk6.cell 8
        have d9:w6.cell? ⟨r0,9,none⟩=some (.slice none 0 0):=hk6.cell 9
        have d10:w6.cell? ⟨r0,10,none⟩=some (.slice none 0 0):=hk6.cell 10
        have f0:w6.frozen? ⟨r0,0,none⟩=false:=hk6.free 0
        have f1:w6.frozen? ⟨r0,1,none⟩=false:=hk6.free 1
        have f2:w6.frozen? ⟨r0,2,none⟩=false:=hk6.free 2
        have f3:w6.frozen? ⟨r0,3,none⟩=false:=hk6.free 3
        have f4:w6.frozen? ⟨r0,4,none⟩=false:=hk6.free 4
        have f5:w6.frozen? ⟨r0,5,none⟩=false:=hk6.free 5
        have f6:w6.frozen? ⟨r0,6,none⟩=false:=hk6.free 6
        have f7:w6.frozen? ⟨r0,7,none⟩=false:=hk6.free 7
        have f8:w6.frozen? ⟨r0,8,none⟩=false:=hk6.free 8
        have f9:w6.frozen? ⟨r0,9,none⟩=false:=hk6.free 9
        have f10:w6.frozen? ⟨r0,10,none⟩=false:=hk6.free 10
        clear hok hbut z0 z1 z2 z3 z4 z5 z6 z7 z8 t0 t1 t2 t3 t4 t8 hof hk6
        go_wp2_with fail
        obtain⟨w9,hw9⟩:∃ w9,laid11 w6 r0 (.string ⟨#[]⟩) (.string ⟨#[]⟩) (.string ⟨#[]⟩) (.string ⟨#[]⟩) (.string ⟨#[]⟩) (.string ⟨#[]⟩) (.string ⟨#[]⟩) (.string ⟨#[]⟩) (.string ⟨#[]⟩) (.slice none 0 0) (.slice none 0 0)=w9:=⟨_,rfl⟩
        have k9:Bk w9 r0 25 #[.string ⟨#[]⟩,.string ⟨#[]⟩,.string ⟨#[]⟩,.string ⟨#[]⟩,.string ⟨#[]⟩,.string ⟨#[]⟩,.string ⟨#[]⟩,.string ⟨#[]⟩,.string ⟨#[]⟩,.slice none 0 0,.slice none 0 0]:=by rw[← hw9];exact laid11_bk HK6.out _ _ _ _ _ _ _ _ _ _ _
        have but9:But (·=r0) w6 w9:=by rw[← hw9];exact laid11_but _ _ _ _ _ _ _ _ _ _ _ _ _
        have j0:w9.cell? ⟨r0,0,none⟩=some (.string ⟨#[]⟩):=k9.cell 0
        have j1:w9.cell? ⟨r0,1,none⟩=some (.string ⟨#[]⟩):=k9.cell 1
        have j2:w9.cell? ⟨r0,2,none⟩=some (.string ⟨#[]⟩):=k9.cell 2
        have j3:w9.cell? ⟨r0,3,none⟩=some (.string ⟨#[]⟩):=k9.cell 3
        have j4:w9.cell? ⟨r0,4,none⟩=some (.string ⟨#[]⟩):=k9.cell 4
        have j5:w9.cell? ⟨r0,5,none⟩=some (.string ⟨#[]⟩):=k9.cell 5
        have j6:w9.cell? ⟨r0,6,none⟩=some (.string ⟨#[]⟩):=k9.cell 6
        have j7:w9.cell? ⟨r0,7,none⟩=some (.string ⟨#[]⟩):=k9.cell 7
        have j8:w9.cell? ⟨r0,8,none⟩=some (.string ⟨#[]⟩):=k9.cell 8
        have j9:w9.cell? ⟨r0,9,none⟩=some (.slice none 0 0):=k9.cell 9
        have j10:w9.cell? ⟨r0,10,none⟩=some (.slice none 0 0):=k9.cell 10
        show bodyPost _ _ _ _ _ (laid11 w6 r0 (.string ⟨#[]⟩) (.string ⟨#[]⟩) (.string ⟨#[]⟩) (.string ⟨#[]⟩) (.string ⟨#[]⟩) (.string ⟨#[]⟩) (.string ⟨#[]⟩) (.string ⟨#[]⟩) (.string ⟨#[]⟩) (.slice none 0 0) (.slice none 0 0))
        rw[hw9]
        refine bodyPost_ret (v:=.tuple #[.agg #[.string ⟨#[]⟩,.string ⟨#[]⟩,.string ⟨#[]⟩,.string ⟨#[]⟩,.string ⟨#[]⟩,.string ⟨#[]⟩,.string ⟨#[]⟩,.string ⟨#[]⟩,.string ⟨#[]⟩,.slice none 0 0,.slice none 0 0],.int .i64 (rc:Nat)]) (by simp[results,Tryz.results11,go_sem,j0,j1,j2,j3,j4,j5,j6,j7,j8,j9,j10]) rfl ?_
        refine⟨⟨_,by rw[HOF.out],?_⟩,B06.out.trans (but9.below B06.out.size (fun j hj e=>by have:=HW0.out;omega))⟩
        rw[HOF.out]
        exact seen_none _
    · have hkn:k=n:=by omega
      subst hkn
      have htk:gs.take k=gs:=List.take_of_length_le (by rw[HGL.out];omega)
      have HT9:Hid (runR noneC gs=(0,cur)):=by have:=HT.out;rw[htk] at this;exact this
      have hro9:wr.ownsRow w3.heap.size 41 4 (.slice OA m ocap) m (prv os):=row_but HRO.out HU.out (fun i hi e=>by have:=hgw.out;omega)
      have hro10:wr.ownsRow w3.heap.size 41 4 (.slice OA m ocap) os.length (prv os):=by rw[HM.out];exact hro9
      have hseen:SeenP wr (.slice OA m ocap) (os.map (·.1)):=seen_row hro10 (fun x hx=>(HSO.out x hx).below HH.out.bel)
      obtain⟨ps,hps⟩:∃ ps,os.map (·.1)=ps:=⟨_,rfl⟩
      rw[hps] at hseen
      have hpc:costC ps≤90000:=by rw[← hps];exact HCS.out
      have hpl:ps.length=m:=by rw[← hps,List.length_map];exact HM.out
      have hpm:∀ p∈ps,p.2.2.1.length≤1000000000:=fun p hp=>(HFEW.out p (by
        have h1:=HAL.out
        rw[hps] at h1
        have h2:=others_in l p
        rw[h1] at h2
        exact h2 hp)).1
      have hea:=eachP_any (.slice OA m ocap) ps wr hseen (by rw[hpl];have:=HM9.out;omega) hpm
      have HEA:=Lib.hid hea
      have hgr:g < wr.heap.size:=HH.out.at_.lt
      have hrr:r0 < wr.heap.size:=Nat.lt_trans HR0.out hgr
      have HGR:=Lib.hid hgr
      have HRR:=Lib.hid hrr
      have hkr:Bk wr r0 25 #[.string ⟨#[]⟩,.string ⟨#[]⟩,.string ⟨#[]⟩,.string ⟨#[]⟩,.string ⟨#[]⟩,.string ⟨#[]⟩,.string ⟨#[]⟩,.string ⟨#[]⟩,.string ⟨#[]⟩,.slice none 0 0,.slice none 0 0]:=HU.out.bk (HKR0.out.below BB4.out HKR0.out.lt) (by have:=HR0.out;omega)
      have HKR9:=Lib.hid hkr
      have hal:findF allK l=(gs,ps):=by rw[HAL.out,hps]
      have HAL9:=Lib.hid hal
      have HPC:=Lib.hid hpc
      clear hrow hro9 hro10 hseen hpc hpl hpm hea hgr hrr hkr hal htk
      go_wp2_with fail
      refine HEA.out.mono ?_
      rintro e w5 ⟨ov,rfl,hop,b5⟩
      obtain⟨OB,ocp,rfl⟩:=hop.slice
      obtain⟨on,hon⟩:∃ on,ps.length=on:=⟨_,rfl⟩
      obtain⟨GA,gcap,hgv⟩:=HH.out.own.slice
      obtain⟨gn,hgn⟩:∃ gn,(sts cur.groups).length=gn:=⟨_,rfl⟩
      rw[hgn] at hgv
      subst hgv
      rw[hon] at hop ⊢
      have HOP:=Lib.hid hop
      obtain⟨s0,hs0⟩:∃ s,bts cur.name=s:=⟨_,rfl⟩
      obtain⟨s1,hs1⟩:∃ s,bts cur.family=s:=⟨_,rfl⟩
      obtain⟨s2,hs2⟩:∃ s,bts cur.given=s:=⟨_,rfl⟩
      obtain⟨s3,hs3⟩:∃ s,bts cur.nick=s:=⟨_,rfl⟩
      obtain⟨s4,hs4⟩:∃ s,bts cur.jid=s:=⟨_,rfl⟩
      obtain⟨s5,hs5⟩:∃ s,bts cur.email=s:=⟨_,rfl⟩
      obtain⟨s6,hs6⟩:∃ s,bts cur.tel=s:=⟨_,rfl⟩
      obtain⟨s7,hs7⟩:∃ s,bts cur.note=s:=⟨_,rfl⟩
      obtain⟨s8,hs8⟩:∃ s,bts cur.uid=s:=⟨_,rfl⟩
      have kg:Bk w5 g 25 #[.string s0,.string s1,.string s2,.string s3,.string s4,.string s5,.string s6,.string s7,.string s8,.slice GA gn gcap,.slice none 0 0]:=by
        have h:Bk w5 g 25 (conCells cur (.slice GA gn gcap) (.slice none 0 0)):=HH.out.at_.below b5 HGR.out
        unfold conCells at h
        rw[hs0,hs1,hs2,hs3,hs4,hs5,hs6,hs7,hs8] at h
        exact h
      have g10:w5.cell? ⟨g,10,none⟩=some (.slice none 0 0):=kg.cell 10
      have gf:w5.frozen? ⟨g,10,none⟩=false:=kg.free 10
      obtain⟨w7,hw7⟩:∃ w7,w5.setCell ⟨g,10,none⟩ (.slice OB on ocp)=w7:=⟨_,rfl⟩
      have k7:Bk w7 g 25 #[.string s0,.string s1,.string s2,.string s3,.string s4,.string s5,.string s6,.string s7,.string s8,.slice GA gn gcap,.slice OB on ocp]:=by rw[← hw7];exact kg.put 10 _
      have but7:But (·=g) w5 w7:=by rw[← hw7];exact but_set _ _ _ _
      have own7:OwnP wr.heap.size w7 (.slice OB on ocp) ps:=hop.butq but7 HGR.out kg (by decide)
      have ogr7:OwnT (g+1) w7 (.slice GA gn gcap) (sts cur.groups):=(HH.out.own.below b5).butq but7 (Nat.lt_succ_self g)
      have bel5:Below W.heap.size W w5:=HH.out.bel.trans (b5.mono HH.out.bel.size)
      have bel7:Below W.heap.size W w7:=bel5.trans (but7.below (by have:=bel5.size;omega) (fun j hj e=>by have:=HR0.out;have:=HW0.out;omega))
      have kr7:Bk w7 r0 25 #[.string ⟨#[]⟩,.string ⟨#[]⟩,.string ⟨#[]⟩,.string ⟨#[]⟩,.string ⟨#[]⟩,.string ⟨#[]⟩,.string ⟨#[]⟩,.string ⟨#[]⟩,.string ⟨#[]⟩,.slice none 0 0,.slice none 0 0]:=but7.bk (HKR9.out.below b5 HRR.out) (by have:=HR0.out;omega)
      obtain⟨d,hd⟩:∃ d,rightC { cur with other:=ps }=d:=⟨_,rfl⟩
      have hri:Calls Tryz.prog 16 #[.agg #[.string s0,.string s1,.string s2,.string s3,.string s4,.string s5,.string s6,.string s7,.string s8,.slice GA gn gcap,.slice OB on ocp]] w7 fun e w'=>e=.returned (.bool d)∧Below w7.heap.size w7 w':=by
        have h:=right_cany { cur with other:=ps } (.slice GA gn gcap) (.slice OB on ocp) w7 (HO.out.below bel7) ogr7.reads own7.seen.reads (by
          obtain⟨l1,l2,l3⟩:=HH.out.low
          exact⟨fun x hx=>Nat.le_trans (l1 x hx) (by decide),⟨Nat.le_trans l2 (by decide),fun x hx=>Nat.le_trans (l3 x hx) (by decide)⟩,Nat.le_trans HPC.out (by decide)⟩)
        unfold agC conCells at h
        dsimp only at h
        rw[hd,hs0,hs1,hs2,hs3,hs4,hs5,hs6,hs7,hs8] at h
        exact h
      have HRI:=Lib.hid hri
      have hof:ofF l=if d=true then ({ cur with other:=ps },0) else (noneC,12):=by
        unfold ofF
        rw[HAL9.out]
        have h:=HT9.out
        simp only[h]
        rw[if_pos trivial,hd]
      have HOF:=Lib.hid hof
      have hag:agC { cur with other:=ps } (.slice GA gn gcap) (.slice OB on ocp)=.agg #[.string s0,.string s1,.string s2,.string s3,.string s4,.string s5,.string s6,.string s7,.string s8,.slice GA gn gcap,.slice OB on ocp]:=by
        unfold agC conCells
        dsimp only
        rw[hs0,hs1,hs2,hs3,hs4,hs5,hs6,hs7,hs8]
      have HAG:=Lib.hid hag
      have K7:=Lib.hid k7
      have KR7:=Lib.hid kr7
      have OW7:=Lib.hid own7
      have OG7:=Lib.hid ogr7
      have BE7:=Lib.hid bel7
      have ZW7:Hid (wr.heap.size≤w7.heap.size):=by have:=b5.size;have:=but7.size;unfold Hid;omega
      have q0:w7.cell? ⟨g,0,none⟩=some (.string s0):=k7.cell 0
      have q1:w7.cell? ⟨g,1,none⟩=some (.string s1):=k7.cell 1
      have q2:w7.cell? ⟨g,2,none⟩=some (.string s2):=k7.cell 2
      have q3:w7.cell? ⟨g,3,none⟩=some (.string s3):=k7.cell 3
      have q4:w7.cell? ⟨g,4,none⟩=some (.string s4):=k7.cell 4
      have q5:w7.cell? ⟨g,5,none⟩=some (.string s5):=k7.cell 5
      have q6:w7.cell? ⟨g,6,none⟩=some (.string s6):=k7.cell 6
      have q7:w7.cell? ⟨g,7,none⟩=some (.string s7):=k7.cell 7
      have q8:w7.cell? ⟨g,8,none⟩=some (.string s8):=k7.cell 8
      have q9:w7.cell? ⟨g,9,none⟩=some (.slice GA gn gcap):=k7.cell 9
      have q10:w7.cell? ⟨g,10,none⟩=some (.slice OB on ocp):=k7.cell 10
      clear hgn hop hon kg k7 kr7 own7 ogr7 bel5 bel7 but7 hri hof hag b5 hs0 hs1 hs2 hs3 hs4 hs5 hs6 hs7 hs8
      go_wp2_with fail
      refine HRI.out.mono ?_
      rintro e w8 ⟨rfl,b8⟩
      have kr8:Bk w8 r0 25 #[.string ⟨#[]⟩,.string ⟨#[]⟩,.string ⟨#[]⟩,.string ⟨#[]⟩,.string ⟨#[]⟩,.string ⟨#[]⟩,.string ⟨#[]⟩,.string ⟨#[]⟩,.string ⟨#[]⟩,.slice none 0 0,.slice none 0 0]:=KR7.out.below b8 KR7.out.lt
      have kg8:Bk w8 g 25 #[.string s0,.string s1,.string s2,.string s3,.string s4,.string s5,.string s6,.string s7,.string s8,.slice GA gn gcap,.slice OB on ocp]:=K7.out.below b8 K7.out.lt
      have OW8:Hid (OwnP wr.heap.size w8 (.slice OB on ocp) ps):=OW7.out.below b8
      have OG8:Hid (OwnT (g+1) w8 (.slice GA gn gcap) (sts cur.groups)):=OG7.out.below b8
      have BE8:Hid (Below W.heap.size W w8):=BE7.out.trans (b8.mono BE7.out.size)
      have KR8:=Lib.hid kr8
      have d0:w8.cell? ⟨r0,0,none⟩=some (.string ⟨#[]⟩):=kr8.cell 0
      have d1:w8.cell? ⟨r0,1,none⟩=some (.string ⟨#[]⟩):=kr8.cell 1
      have d2:w8.cell? ⟨r0,2,none⟩=some (.string ⟨#[]⟩):=kr8.cell 2
      have d3:w8.cell? ⟨r0,3,none⟩=some (.string ⟨#[]⟩):=kr8.cell 3
      have d4:w8.cell? ⟨r0,4,none⟩=some (.string ⟨#[]⟩):=kr8.cell 4
      have d5:w8.cell? ⟨r0,5,none⟩=some (.string ⟨#[]⟩):=kr8.cell 5
      have d6:w8.cell? ⟨r0,6,none⟩=some (.string ⟨#[]⟩):=kr8.cell 6
      have d7:w8.cell? ⟨r0,7,none⟩=some (.string ⟨#[]⟩):=kr8.cell 7
      have d8:w8.cell? ⟨r0,8,none⟩=some (.string ⟨#[]⟩):=kr8.cell 8
      have d9:w8.cell? ⟨r0,9,none⟩=some (.slice none 0 0):=kr8.cell 9
      have d10:w8.cell? ⟨r0,10,none⟩=some (.slice none 0 0):=kr8.cell 10
      have f0:w8.frozen? ⟨r0,0,none⟩=false:=kr8.free 0
      have f1:w8.frozen? ⟨r0,1,none⟩=false:=kr8.free 1
      have f2:w8.frozen? ⟨r0,2,none⟩=false:=kr8.free 2
      have f3:w8.frozen? ⟨r0,3,none⟩=false:=kr8.free 3
      have f4:w8.frozen? ⟨r0,4,none⟩=false:=kr8.free 4
      have f5:w8.frozen? ⟨r0,5,none⟩=false:=kr8.free 5
      have f6:w8.frozen? ⟨r0,6,none⟩=false:=kr8.free 6
      have f7:w8.frozen? ⟨r0,7,none⟩=false:=kr8.free 7
      have f8:w8.frozen? ⟨r0,8,none⟩=false:=kr8.free 8
      have f9:w8.frozen? ⟨r0,9,none⟩=false:=kr8.free 9
      have f10:w8.frozen? ⟨r0,10,none⟩=false:=kr8.free 10
      have p0:w8.cell? ⟨g,0,none⟩=some (.string s0):=kg8.cell 0
      have p1:w8.cell? ⟨g,1,none⟩=some (.string s1):=kg8.cell 1
      have p2:w8.cell? ⟨g,2,none⟩=some (.string s2):=kg8.cell 2
      have p3:w8.cell? ⟨g,3,none⟩=some (.string s3):=kg8.cell 3
      have p4:w8.cell? ⟨g,4,none⟩=some (.string s4):=kg8.cell 4
      have p5:w8.cell? ⟨g,5,none⟩=some (.string s5):=kg8.cell 5
      have p6:w8.cell? ⟨g,6,none⟩=some (.string s6):=kg8.cell 6
      have p7:w8.cell? ⟨g,7,none⟩=some (.string s7):=kg8.cell 7
      have p8:w8.cell? ⟨g,8,none⟩=some (.string s8):=kg8.cell 8
      have p9:w8.cell? ⟨g,9,none⟩=some (.slice GA gn gcap):=kg8.cell 9
      have p10:w8.cell? ⟨g,10,none⟩=some (.slice OB on ocp):=kg8.cell 10
      have HNE:g≠r0:=by have:=HR0.out;omega
      clear kr8 kg8 b8 q0 q1 q2 q3 q4 q5 q6 q7 q8 q9 q10
      cases d with
      | true =>
        go_wp2_with fail
        obtain⟨w9,hw9⟩:∃ w9,laid11 w8 r0 (.string s0) (.string s1) (.string s2) (.string s3) (.string s4) (.string s5) (.string s6) (.string s7) (.string s8) (.slice GA gn gcap) (.slice OB on ocp)=w9:=⟨_,rfl⟩
        have k9:Bk w9 r0 25 #[.string s0,.string s1,.string s2,.string s3,.string s4,.string s5,.string s6,.string s7,.string s8,.slice GA gn gcap,.slice OB on ocp]:=by rw[← hw9];exact laid11_bk KR8.out _ _ _ _ _ _ _ _ _ _ _
        have but9:But (·=r0) w8 w9:=by rw[← hw9];exact laid11_but _ _ _ _ _ _ _ _ _ _ _ _ _
        have j0:w9.cell? ⟨r0,0,none⟩=some (.string s0):=k9.cell 0
        have j1:w9.cell? ⟨r0,1,none⟩=some (.string s1):=k9.cell 1
        have j2:w9.cell? ⟨r0,2,none⟩=some (.string s2):=k9.cell 2
        have j3:w9.cell? ⟨r0,3,none⟩=some (.string s3):=k9.cell 3
        have j4:w9.cell? ⟨r0,4,none⟩=some (.string s4):=k9.cell 4
        have j5:w9.cell? ⟨r0,5,none⟩=some (.string s5):=k9.cell 5
        have j6:w9.cell? ⟨r0,6,none⟩=some (.string s6):=k9.cell 6
        have j7:w9.cell? ⟨r0,7,none⟩=some (.string s7):=k9.cell 7
        have j8:w9.cell? ⟨r0,8,none⟩=some (.string s8):=k9.cell 8
        have j9:w9.cell? ⟨r0,9,none⟩=some (.slice GA gn gcap):=k9.cell 9
        have j10:w9.cell? ⟨r0,10,none⟩=some (.slice OB on ocp):=k9.cell 10
        show bodyPost _ _ _ _ _ (laid11 w8 r0 (.string s0) (.string s1) (.string s2) (.string s3) (.string s4) (.string s5) (.string s6) (.string s7) (.string s8) (.slice GA gn gcap) (.slice OB on ocp))
        rw[hw9]
        refine bodyPost_ret (v:=.tuple #[.agg #[.string s0,.string s1,.string s2,.string s3,.string s4,.string s5,.string s6,.string s7,.string s8,.slice GA gn gcap,.slice OB on ocp],.int .i64 0]) (by simp[results,Tryz.results11,go_sem,j0,j1,j2,j3,j4,j5,j6,j7,j8,j9,j10]) rfl ?_
        refine⟨⟨_,by rw[HOF.out];rfl,?_⟩,BE8.out.trans (but9.below BE8.out.size (fun j hj e=>by have:=HW0.out;omega))⟩
        rw[HOF.out,if_pos trivial]
        exact⟨_,_,HAG.out.symm,(OG8.out.butq but9 (by have:=HR0.out;omega)).reads,(OW8.out.butq but9 HRR.out KR8.out (by decide)).seen⟩
      | false =>
        go_wp2_with fail
        obtain⟨w9,hw9⟩:∃ w9,laid11 w8 r0 (.string ⟨#[]⟩) (.string ⟨#[]⟩) (.string ⟨#[]⟩) (.string ⟨#[]⟩) (.string ⟨#[]⟩) (.string ⟨#[]⟩) (.string ⟨#[]⟩) (.string ⟨#[]⟩) (.string ⟨#[]⟩) (.slice none 0 0) (.slice none 0 0)=w9:=⟨_,rfl⟩
        have k9:Bk w9 r0 25 #[.string ⟨#[]⟩,.string ⟨#[]⟩,.string ⟨#[]⟩,.string ⟨#[]⟩,.string ⟨#[]⟩,.string ⟨#[]⟩,.string ⟨#[]⟩,.string ⟨#[]⟩,.string ⟨#[]⟩,.slice none 0 0,.slice none 0 0]:=by rw[← hw9];exact laid11_bk KR8.out _ _ _ _ _ _ _ _ _ _ _
        have but9:But (·=r0) w8 w9:=by rw[← hw9];exact laid11_but _ _ _ _ _ _ _ _ _ _ _ _ _
        have j0:w9.cell? ⟨r0,0,none⟩=some (.string ⟨#[]⟩):=k9.cell 0
        have j1:w9.cell? ⟨r0,1,none⟩=some (.string ⟨#[]⟩):=k9.cell 1
        have j2:w9.cell? ⟨r0,2,none⟩=some (.string ⟨#[]⟩):=k9.cell 2
        have j3:w9.cell? ⟨r0,3,none⟩=some (.string ⟨#[]⟩):=k9.cell 3
        have j4:w9.cell? ⟨r0,4,none⟩=some (.string ⟨#[]⟩):=k9.cell 4
        have j5:w9.cell? ⟨r0,5,none⟩=some (.string ⟨#[]⟩):=k9.cell 5
        have j6:w9.cell? ⟨r0,6,none⟩=some (.string ⟨#[]⟩):=k9.cell 6
        have j7:w9.cell? ⟨r0,7,none⟩=some (.string ⟨#[]⟩):=k9.cell 7
        have j8:w9.cell? ⟨r0,8,none⟩=some (.string ⟨#[]⟩):=k9.cell 8
        have j9:w9.cell? ⟨r0,9,none⟩=some (.slice none 0 0):=k9.cell 9
        have j10:w9.cell? ⟨r0,10,none⟩=some (.slice none 0 0):=k9.cell 10
        show bodyPost _ _ _ _ _ (laid11 w8 r0 (.string ⟨#[]⟩) (.string ⟨#[]⟩) (.string ⟨#[]⟩) (.string ⟨#[]⟩) (.string ⟨#[]⟩) (.string ⟨#[]⟩) (.string ⟨#[]⟩) (.string ⟨#[]⟩) (.string ⟨#[]⟩) (.slice none 0 0) (.slice none 0 0))
        rw[hw9]
        refine bodyPost_ret (v:=.tuple #[.agg #[.string ⟨#[]⟩,.string ⟨#[]⟩,.string ⟨#[]⟩,.string ⟨#[]⟩,.string ⟨#[]⟩,.string ⟨#[]⟩,.string ⟨#[]⟩,.string ⟨#[]⟩,.string ⟨#[]⟩,.slice none 0 0,.slice none 0 0],.int .i64 12]) (by simp[results,Tryz.results11,go_sem,j0,j1,j2,j3,j4,j5,j6,j7,j8,j9,j10]) rfl ?_
        refine⟨⟨_,by rw[HOF.out];rfl,?_⟩,BE8.out.trans (but9.below BE8.out.size (fun j hj e=>by have:=HW0.out;omega))⟩
        rw[HOF.out,if_neg (by decide)]
        exact seen_none _
end Go.Proofs.YtfbdnaclkfmiaaaGreatDoor
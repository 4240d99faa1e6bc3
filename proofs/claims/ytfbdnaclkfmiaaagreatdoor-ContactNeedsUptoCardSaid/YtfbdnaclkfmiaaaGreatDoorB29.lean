import Derived.Test.YtfbdnaclkfmiaaaGreatDoorB21
import Derived.Lib.Hide
import Derived.Laws.StructEq
import Derived.Lib.SlicesS
import Derived.Deep.RegionWith
import Derived.Test.YtfbdnaclkfmiaaaGreatDoorB27
import Derived.Test.YtfbdnaclkfmiaaaGreatDoorB28
import Derived.Test.YtfbdnaclkfmiaaaGreatDoorB16
import Derived.Test.YtfbdnaclkfmiaaaGreatDoorB04
import Derived.Test.YtfbdnaclkfmiaaaGreatDoorB15
section
namespace Go.Proofs.YtfbdnaclkfmiaaaGreatDoor
open Go.RowKit
theorem bts_eqb (a b:List UInt8):((bts a).toList==(bts b).toList)=decide (a=b):=by
  rw[ByteArray.toList_mk,ByteArray.toList_mk]
  by_cases h:a=b
  · simp[h]
  · rw[decide_eq_false h]
    simpa using h
theorem eqGuardA (op:BinOp) (x y:Operand) (p q:Att) (w:World):(eqGuard op 48 x y (agA p) (agA q)).run Tryz.prog w=.ok () w:=run_eqGuard_agg w op 48 x y _ _ (by kernel_rfl)
theorem equalAt (p q:Att) (w:World):(Op.equalIn 10000 48 (agA p) (agA q)).run Tryz.prog w=.ok (decide (p=q)) w:=by
  have u3:=Tryz.underlying9
  have a3:=Tryz.isAgg9
  have z3:=Tryz.sizeOf9
  have hS : Tryz.prog.underlying 48=some (.struct (Tryz.prog.fieldsOf 48)):=by kernel_rfl
  have hp : Tryz.prog.stoodInHeld 48=false:=by kernel_rfl
  rw[show (10000:Nat)=9999+1 from rfl,run_equalIn_agg w 9999 48 _ _ hS hp]
  simp only[Program.fieldsOf,Tryz.underlying48]
  obtain⟨a,b⟩:=p
  obtain⟨c,d⟩:=q
  have e1:=bts_eqb a c
  have e2:=bts_eqb b d
  dsimp only
  generalize bts a=A at e1 ⊢
  generalize bts b=B at e2 ⊢
  generalize bts c=C at e1 ⊢
  generalize bts d=D at e2 ⊢
  go_simp
  by_cases h1:a=c<;>by_cases h2:b=d<;>simp[h1,h2] at e1 e2 ⊢<;>simp[e1,e2]
end Go.Proofs.YtfbdnaclkfmiaaaGreatDoor
end
section
namespace Go.Proofs.YtfbdnaclkfmiaaaGreatDoor
open Go.RowKit Vc
abbrev agZ:Value:=.agg #[.string ⟨#[]⟩,.string ⟨#[]⟩,.slice none 0 0,.string ⟨#[]⟩]
def ownN (n:List UInt8):Bool:=decide (n=beginN)||decide (n=versN)
def ownE (l:List UInt8):Nat:=match propL l with
  | none=>17
  | some p=>if ownN p.2.1=true then 20 else 0
def Within (p:Pr) (n:Nat):Prop:=p.1.length≤n∧p.2.1.length≤n∧p.2.2.2.length≤n∧p.2.2.1.length≤n
def OwnV (B:Nat) (l:List UInt8) (e:Ending) (w':World):Prop :=
  (∃ (p:Pr) (u:Value),e=.returned (.tuple #[agP p u,.int .i64 0])∧ownE l=0∧propL l=some p∧OwnA B w' u p.2.2.1∧Within p l.length)∨(ownE l≠0∧e=.returned (.tuple #[agZ,.int .i64 (ownE l:Nat)]))
theorem bts_eq (a b:List UInt8):((bts a).toList==b)=decide (a=b):=by
  rw[ByteArray.toList_mk,Bool.eq_iff_iff]
  simp
set_option maxHeartbeats 4000000 in
set_option maxRecDepth 100000 in
theorem own_any (s:ByteArray) (w:World) (hM:MaxL w) (hs:s.size≤1000000000) :
    Calls Tryz.prog 186 #[.string s] w fun e w'=>OwnV w.heap.size s.data.toList e w'∧Below w.heap.size w w':=by
  obtain⟨l,hl⟩:∃ l,s.data.toList=l:=⟨_,rfl⟩
  have HP:=Lib.hid (fun (W:World) (h:Below w.heap.size w W)=>property_any s W (hM.below h) hs)
  rw[hl] at HP ⊢
  clear hM hs hl
  go_enter Tryz.func186,Tryz.ntmps186
  go_wp2_with fail
  refine(HP.out _ ((Below.refl _ w).alloc (Nat.le_refl _) _)).mono ?_
  rintro e w1 ⟨hv,b1⟩
  have HV:=Lib.hid hv
  have K1:=Lib.hid ((Bk.new w 41 #[.string ⟨#[]⟩,.string ⟨#[]⟩,.slice none 0 0,.string ⟨#[]⟩]).below b1 (Bk.new _ _ _).lt)
  have B1:Hid (Below w.heap.size w w1):=((Below.refl _ w).alloc (Nat.le_refl _) _).trans (b1.mono (by simp))
  have HZ0:Hid (w.heap.size≤(w.alloc (.cells #[.string ⟨#[]⟩,.string ⟨#[]⟩,.slice none 0 0,.string ⟨#[]⟩] 41)).heap.size):=by unfold Hid;simp
  clear hv b1
  rcases HV.out with ⟨p,u,rfl,hp,hown,hl1,hl2,hl3,hl4⟩ | ⟨hp,rfl⟩
  · obtain⟨A,cap,rfl⟩:=hown.slice
    have HO:Hid (OwnA w.heap.size w1 (.slice A p.2.2.1.length cap) p.2.2.1):=hown.weak HZ0.out
    have HLL:Hid (Within p l.length):=⟨hl1,hl2,hl3,hl4⟩
    obtain⟨n,hn⟩:∃ n,p.2.2.1.length=n:=⟨_,rfl⟩
    obtain⟨x0,e0⟩:∃ a,bts p.1=a:=⟨_,rfl⟩
    obtain⟨x1,e1⟩:∃ a,bts p.2.1=a:=⟨_,rfl⟩
    obtain⟨x3,e3⟩:∃ a,bts p.2.2.2=a:=⟨_,rfl⟩
    have E0:=Lib.hid e0
    have E1:=Lib.hid e1
    have E3:=Lib.hid e3
    have HN:=Lib.hid hn
    have HPP:=Lib.hid hp
    have hb:(x1.toList==[66,69,71,73,78])=decide (p.2.1=beginN):=by rw[← e1];exact bts_eq _ _
    have hvn:(x1.toList==[86,69,82,83,73,79,78])=decide (p.2.1=versN):=by rw[← e1];exact bts_eq _ _
    rw[hn] at HO
    unfold agP
    rw[e0,e1,e3,hn]
    clear hown hl1 hl2 hl3 hl4 e0 e1 e3 hn hp
    go_upto_region 2 with fail
    obtain⟨W2,hW2⟩:∃ W2,w1.alloc (.cells #[.string x0,.string x1,.slice A n cap,.string x3] 41)=W2:=⟨_,rfl⟩
    obtain⟨Y,hY⟩:∃ Y,w1.heap.size=Y:=⟨_,rfl⟩
    have b2:Below w1.heap.size w1 W2:=by rw[← hW2];exact(Below.refl _ _).alloc (Nat.le_refl _) _
    have k2:Bk W2 Y 41 #[.string x0,.string x1,.slice A n cap,.string x3]:=by rw[← hW2,← hY];exact Bk.new _ _ _
    have y0:W2.cell? ⟨Y,0,none⟩=some (.string x0):=k2.cell 0
    have y1:W2.cell? ⟨Y,1,none⟩=some (.string x1):=k2.cell 1
    have y2:W2.cell? ⟨Y,2,none⟩=some (.slice A n cap):=k2.cell 2
    have y3:W2.cell? ⟨Y,3,none⟩=some (.string x3):=k2.cell 3
    have K2:=Lib.hid (K1.out.below b2 K1.out.lt)
    have B2:Hid (Below w.heap.size w W2):=B1.out.trans (b2.mono B1.out.size)
    have O2:=Lib.hid (HO.out.below b2)
    rw[hW2,hY]
    clear b2 k2 hW2 hY
    obtain⟨v0,d0⟩:∃ v,W2.cell? ⟨w.heap.size,0,none⟩=some v:=⟨_,K2.out.cell 0⟩
    obtain⟨v1,d1⟩:∃ v,W2.cell? ⟨w.heap.size,1,none⟩=some v:=⟨_,K2.out.cell 1⟩
    obtain⟨v2,d2⟩:∃ v,W2.cell? ⟨w.heap.size,2,none⟩=some v:=⟨_,K2.out.cell 2⟩
    obtain⟨v3,d3⟩:∃ v,W2.cell? ⟨w.heap.size,3,none⟩=some v:=⟨_,K2.out.cell 3⟩
    have f0:W2.frozen? ⟨w.heap.size,0,none⟩=false:=K2.out.free 0
    have f1:W2.frozen? ⟨w.heap.size,1,none⟩=false:=K2.out.free 1
    have f2:W2.frozen? ⟨w.heap.size,2,none⟩=false:=K2.out.free 2
    have f3:W2.frozen? ⟨w.heap.size,3,none⟩=false:=K2.out.free 3
    by_cases hbg:p.2.1=beginN
    · have hoe:Hid (ownE l=20):=by unfold Hid ownE;rw[HPP.out];simp only[ownN,hbg];rfl
      rw[decide_eq_true hbg] at hb
      clear hbg hvn
      go_wp2_with fail
      have KF:=Bk.four K2.out ⟨_,_,_,_,rfl⟩ (.string ⟨#[]⟩) (.string ⟨#[]⟩) (.slice none 0 0) (.string ⟨#[]⟩)
      have q0:World.cell? (four w.heap.size W2 (.string ⟨#[]⟩) (.string ⟨#[]⟩) (.slice none 0 0) (.string ⟨#[]⟩)) ⟨w.heap.size,0,none⟩=some (.string ⟨#[]⟩):=KF.cell 0
      have q1:World.cell? (four w.heap.size W2 (.string ⟨#[]⟩) (.string ⟨#[]⟩) (.slice none 0 0) (.string ⟨#[]⟩)) ⟨w.heap.size,1,none⟩=some (.string ⟨#[]⟩):=KF.cell 1
      have q2:World.cell? (four w.heap.size W2 (.string ⟨#[]⟩) (.string ⟨#[]⟩) (.slice none 0 0) (.string ⟨#[]⟩)) ⟨w.heap.size,2,none⟩=some (.slice none 0 0):=KF.cell 2
      have q3:World.cell? (four w.heap.size W2 (.string ⟨#[]⟩) (.string ⟨#[]⟩) (.slice none 0 0) (.string ⟨#[]⟩)) ⟨w.heap.size,3,none⟩=some (.string ⟨#[]⟩):=KF.cell 3
      refine bodyPost_ret (v:=.tuple #[.agg #[.string ⟨#[]⟩,.string ⟨#[]⟩,.slice none 0 0,.string ⟨#[]⟩],.int .i64 20]) (by simp[results,Tryz.results186,go_sem,q0,q1,q2,q3]) rfl ⟨.inr ⟨by rw[hoe.out];decide,by rw[hoe.out];rfl⟩,below_four B2.out (Nat.le_refl _) _ _ _ _⟩
    · rw[decide_eq_false hbg] at hb
      by_cases hvs:p.2.1=versN
      · have hoe:Hid (ownE l=20):=by unfold Hid ownE;rw[HPP.out];simp only[ownN,hvs];rfl
        rw[decide_eq_true hvs] at hvn
        clear hbg hvs
        go_wp2_with fail
        have KF:=Bk.four K2.out ⟨_,_,_,_,rfl⟩ (.string ⟨#[]⟩) (.string ⟨#[]⟩) (.slice none 0 0) (.string ⟨#[]⟩)
        have q0:World.cell? (four w.heap.size W2 (.string ⟨#[]⟩) (.string ⟨#[]⟩) (.slice none 0 0) (.string ⟨#[]⟩)) ⟨w.heap.size,0,none⟩=some (.string ⟨#[]⟩):=KF.cell 0
        have q1:World.cell? (four w.heap.size W2 (.string ⟨#[]⟩) (.string ⟨#[]⟩) (.slice none 0 0) (.string ⟨#[]⟩)) ⟨w.heap.size,1,none⟩=some (.string ⟨#[]⟩):=KF.cell 1
        have q2:World.cell? (four w.heap.size W2 (.string ⟨#[]⟩) (.string ⟨#[]⟩) (.slice none 0 0) (.string ⟨#[]⟩)) ⟨w.heap.size,2,none⟩=some (.slice none 0 0):=KF.cell 2
        have q3:World.cell? (four w.heap.size W2 (.string ⟨#[]⟩) (.string ⟨#[]⟩) (.slice none 0 0) (.string ⟨#[]⟩)) ⟨w.heap.size,3,none⟩=some (.string ⟨#[]⟩):=KF.cell 3
        refine bodyPost_ret (v:=.tuple #[.agg #[.string ⟨#[]⟩,.string ⟨#[]⟩,.slice none 0 0,.string ⟨#[]⟩],.int .i64 20]) (by simp[results,Tryz.results186,go_sem,q0,q1,q2,q3]) rfl ⟨.inr ⟨by rw[hoe.out];decide,by rw[hoe.out];rfl⟩,below_four B2.out (Nat.le_refl _) _ _ _ _⟩
      · have hoe:Hid (ownE l=0):=by unfold Hid ownE;rw[HPP.out];simp only[ownN,decide_eq_false hbg,decide_eq_false hvs];rfl
        rw[decide_eq_false hvs] at hvn
        clear hbg hvs
        go_wp2_with fail
        have KF:=Bk.four K2.out ⟨_,_,_,_,rfl⟩ (.string x0) (.string x1) (.slice A n cap) (.string x3)
        have q0:World.cell? (four w.heap.size W2 (.string x0) (.string x1) (.slice A n cap) (.string x3)) ⟨w.heap.size,0,none⟩=some (.string x0):=KF.cell 0
        have q1:World.cell? (four w.heap.size W2 (.string x0) (.string x1) (.slice A n cap) (.string x3)) ⟨w.heap.size,1,none⟩=some (.string x1):=KF.cell 1
        have q2:World.cell? (four w.heap.size W2 (.string x0) (.string x1) (.slice A n cap) (.string x3)) ⟨w.heap.size,2,none⟩=some (.slice A n cap):=KF.cell 2
        have q3:World.cell? (four w.heap.size W2 (.string x0) (.string x1) (.slice A n cap) (.string x3)) ⟨w.heap.size,3,none⟩=some (.string x3):=KF.cell 3
        refine bodyPost_ret (v:=.tuple #[.agg #[.string x0,.string x1,.slice A n cap,.string x3],.int .i64 0]) (by simp[results,Tryz.results186,go_sem,q0,q1,q2,q3]) rfl ⟨.inl ⟨p,.slice A n cap,by unfold agP;rw[E0.out,E1.out,E3.out],hoe.out,HPP.out,O2.out.four K2.out (by decide) _ _ _ _,HLL.out⟩,below_four B2.out (Nat.le_refl _) _ _ _ _⟩
  · have hoe:Hid (ownE l=17):=by unfold Hid ownE;rw[hp]
    clear hp
    go_upto_region 2 with fail
    obtain⟨W2,hW2⟩:∃ W2,w1.alloc (.cells #[.string ⟨#[]⟩,.string ⟨#[]⟩,.slice none 0 0,.string ⟨#[]⟩] 41)=W2:=⟨_,rfl⟩
    have b2:Below w1.heap.size w1 W2:=by rw[← hW2];exact(Below.refl _ _).alloc (Nat.le_refl _) _
    have K2:=Lib.hid (K1.out.below b2 K1.out.lt)
    have B2:Hid (Below w.heap.size w W2):=B1.out.trans (b2.mono B1.out.size)
    rw[hW2]
    clear b2 hW2
    obtain⟨v0,d0⟩:∃ v,W2.cell? ⟨w.heap.size,0,none⟩=some v:=⟨_,K2.out.cell 0⟩
    obtain⟨v1,d1⟩:∃ v,W2.cell? ⟨w.heap.size,1,none⟩=some v:=⟨_,K2.out.cell 1⟩
    obtain⟨v2,d2⟩:∃ v,W2.cell? ⟨w.heap.size,2,none⟩=some v:=⟨_,K2.out.cell 2⟩
    obtain⟨v3,d3⟩:∃ v,W2.cell? ⟨w.heap.size,3,none⟩=some v:=⟨_,K2.out.cell 3⟩
    have f0:W2.frozen? ⟨w.heap.size,0,none⟩=false:=K2.out.free 0
    have f1:W2.frozen? ⟨w.heap.size,1,none⟩=false:=K2.out.free 1
    have f2:W2.frozen? ⟨w.heap.size,2,none⟩=false:=K2.out.free 2
    have f3:W2.frozen? ⟨w.heap.size,3,none⟩=false:=K2.out.free 3
    go_wp2_with fail
    have KF:=Bk.four K2.out ⟨_,_,_,_,rfl⟩ (.string ⟨#[]⟩) (.string ⟨#[]⟩) (.slice none 0 0) (.string ⟨#[]⟩)
    have q0:World.cell? (four w.heap.size W2 (.string ⟨#[]⟩) (.string ⟨#[]⟩) (.slice none 0 0) (.string ⟨#[]⟩)) ⟨w.heap.size,0,none⟩=some (.string ⟨#[]⟩):=KF.cell 0
    have q1:World.cell? (four w.heap.size W2 (.string ⟨#[]⟩) (.string ⟨#[]⟩) (.slice none 0 0) (.string ⟨#[]⟩)) ⟨w.heap.size,1,none⟩=some (.string ⟨#[]⟩):=KF.cell 1
    have q2:World.cell? (four w.heap.size W2 (.string ⟨#[]⟩) (.string ⟨#[]⟩) (.slice none 0 0) (.string ⟨#[]⟩)) ⟨w.heap.size,2,none⟩=some (.slice none 0 0):=KF.cell 2
    have q3:World.cell? (four w.heap.size W2 (.string ⟨#[]⟩) (.string ⟨#[]⟩) (.slice none 0 0) (.string ⟨#[]⟩)) ⟨w.heap.size,3,none⟩=some (.string ⟨#[]⟩):=KF.cell 3
    refine bodyPost_ret (v:=.tuple #[.agg #[.string ⟨#[]⟩,.string ⟨#[]⟩,.slice none 0 0,.string ⟨#[]⟩],.int .i64 17]) (by simp[results,Tryz.results186,go_sem,q0,q1,q2,q3]) rfl ⟨.inr ⟨by rw[hoe.out];decide,by rw[hoe.out];rfl⟩,below_four B2.out (Nat.le_refl _) _ _ _ _⟩
end Go.Proofs.YtfbdnaclkfmiaaaGreatDoor
end
section
namespace Go.Proofs.YtfbdnaclkfmiaaaGreatDoor
open Go.RowKit Vc
def RowsP (C:Nat) (w:World) (us:List Value) (cs:List (List Pr)):Prop:=us.length=cs.length∧∀ (i:Nat) (u:Value) (c:List Pr),us[i]?=some u→cs[i]?=some c→RowP C w u c
theorem RowsP.nil (C:Nat) (w:World):RowsP C w [] []:=⟨rfl,fun i u c h=>by simp at h⟩
theorem RowsP.keep {C D:Nat} {w w':World} {us:List Value} {cs:List (List Pr)} (h:RowsP C w us cs) (hC:C≤D) (hb:∀ g cs,g < C→Bk w g 41 cs→Bk w' g 41 cs) (ha:KeepA w w'):RowsP D w' us cs :=
  ⟨h.1,fun i u c h1 h2=>((h.2 i u c h1 h2).keep hb ha).more hC⟩
theorem RowsP.below {C:Nat} {w w':World} {us:List Value} {cs:List (List Pr)} (h:RowsP C w us cs) (hb:Below w.heap.size w w'):RowsP C w' us cs :=
  h.keep (Nat.le_refl _) (fun _ _ _ hg=>(hb.block _ hg.lt).trans hg) (KeepA.below hb)
theorem up_end:up endT=endT:=by decide +kernel
theorem plain_endV:Plainly ⟨#[69,78,68,58,86,67,65,82,68]⟩:=Plainly.of (by decide +kernel)
theorem Bk.stored {w:World} {g k:Nat} {t tk:TypeId} {cs ck:Array Value} (hk:Bk w k tk ck) (hg:Bk w g t cs) (ht:tk≠t) (o:Nat) (x:Value):Bk (w.setCell ⟨g,o,none⟩ x) k tk ck :=
  (Below.heap_setCell _ _ _ _ (Bk.type_ne hk hg ht)).trans hk
end Go.Proofs.YtfbdnaclkfmiaaaGreatDoor
end
section
namespace Go.Proofs.YtfbdnaclkfmiaaaGreatDoor
open Go.RowKit Tx
theorem index_clean:∀ l:List UInt8,(Lib.indexAny l [13,10]=-1∧clean l)∨(0≤Lib.indexAny l [13,10]∧¬ clean l)
  | []=>.inl ⟨rfl,fun c hc=>by cases hc⟩
  | b :: l=>by
    by_cases h:b=13∨b=10
    · right
      refine⟨?_,fun hc=>?_⟩
      · unfold Lib.indexAny
        rw[if_pos (by rcases h with h | h<;>subst h<;>decide)]
        exact Int.le_refl _
      · have:=hc b (by simp)
        rcases h with rfl | rfl
        · exact this.2 rfl
        · exact this.1 rfl
    · have hn:([13,10]:List UInt8).contains b=false:=by
        have h1:b≠13:=fun e=>h (.inl e)
        have h2:b≠10:=fun e=>h (.inr e)
        simp[h1,h2]
      rcases index_clean l with ⟨h1,h2⟩ | ⟨h1,h2⟩
      · left
        refine⟨?_,fun c hc=>?_⟩
        · unfold Lib.indexAny
          rw[hn,h1]
          rfl
        · rcases List.mem_cons.1 hc with rfl | hc
          · exact⟨fun e=>h (.inr e),fun e=>h (.inl e)⟩
          · exact h2 c hc
      · right
        refine⟨?_,fun hc=>h2 (fun c hm=>hc c (by simp[hm]))⟩
        unfold Lib.indexAny
        rw[hn]
        have:(Lib.indexAny l [13,10]==-1)=false:=by rw[beq_eq_false_iff_ne];omega
        rw[this]
        simp
        omega
set_option maxHeartbeats 1000000 in
theorem hasEnd_any (s:ByteArray) (w:World) (hs:s.size < 4294967281):Calls Tryz.prog 184 #[.string s,.string ⟨#[13,10]⟩] w fun e w'=>e=.returned (.bool (!decide (clean s.data.toList)))∧Below w.heap.size w w':=by
  have H:=sindex_any s w hs
  obtain⟨i,hi⟩:∃ i,Lib.indexAny s.data.toList [13,10]=i:=⟨_,rfl⟩
  have hc:=index_clean s.data.toList
  rw[hi] at H hc
  have HO:=Lib.hid H
  have hd:(!decide (clean s.data.toList))=decide (0≤i):=by
    rcases hc with ⟨h1,h2⟩ | ⟨h1,h2⟩
    · subst h1
      simp[h2]
    · simp[h1,h2]
  rw[hd]
  clear H hi hc hd
  go_enter Tryz.func184,Tryz.ntmps184
  go_wp2_with (go_at_call 222;refine HO.out.mono ?_;rintro e w1 ⟨rfl,b1⟩)
  go_ret
  exact⟨ret_bool rfl,b1⟩
end Go.Proofs.YtfbdnaclkfmiaaaGreatDoor
end
section
namespace Go.Proofs.YtfbdnaclkfmiaaaGreatDoor
open Go.RowKit Tx
theorem Btw.whole {b C:Nat} {w w':World} (h:Btw b C w w') (hb:w'.heap[b]?=w.heap[b]?):Below C w w' :=
  ⟨h.below.os,h.below.tape,h.below.output,h.below.size,fun g hg=>by
    rcases Nat.lt_trichotomy g b with h1 | h1 | h1
    · exact h.below.block g h1
    · subst h1;exact hb
    · exact h.mid g h1 hg⟩
theorem ivs_first:∀ (bs:List Bool) (o k:Nat),∃ e t,ivs o k bs=(o,e)::t∧k≤e∧∀ x∈t,x.1 < x.2
  | [],o,k=>⟨k,[],rfl,Nat.le_refl _,fun x hx=>by cases hx⟩
  | b :: bs,o,k=>by
    cases b with
    | true =>
      obtain⟨e,t,h1,h2,h3⟩:=ivs_first bs k (k+1)
      refine⟨k,ivs k (k+1) bs,rfl,Nat.le_refl _,fun x hx=>?_⟩
      rw[h1] at hx
      rcases List.mem_cons.1 hx with rfl | hx
      · exact h2
      · exact h3 x hx
    | false =>
      obtain⟨e,t,h1,h2,h3⟩:=ivs_first bs o (k+1)
      exact⟨e,t,h1,by omega,h3⟩
end Go.Proofs.YtfbdnaclkfmiaaaGreatDoor
end
section
namespace Go.Proofs.YtfbdnaclkfmiaaaGreatDoor
open Go.RowKit Vc
def ReadV (w:World) (v:Value) (cs:List (List Pr)):Prop:=∃ A cap,v=.slice A cs.length cap∧(0 < cs.length→∃ ad:Addr,A=some ad∧ad.block < w.heap.size∧∀ i c,cs[i]?=some c→∃ u,w.cell? (ad.add i)=some u∧ReadP w u c)
theorem ReadV.below {w w':World} {v:Value} {cs:List (List Pr)} (h:ReadV w v cs) (hb:Below w.heap.size w w'):ReadV w' v cs:=by
  obtain⟨A,cap,rfl,h2⟩:=h
  refine⟨A,cap,rfl,fun h0=>?_⟩
  obtain⟨ad,rfl,hl,hc⟩:=h2 h0
  refine⟨ad,rfl,Nat.lt_of_lt_of_le hl hb.size,fun i c hi=>?_⟩
  obtain⟨u,h3,h4⟩:=hc i c hi
  exact⟨u,by rw[hb.cell (by rw[addBlock];exact hl)];exact h3,h4.below hb⟩
theorem ReadV.nil (w:World):ReadV w (.slice none 0 0) []:=⟨none,0,rfl,fun h=>absurd h (Nat.not_lt_zero _)⟩
theorem ReadV.slice {w:World} {v:Value} {cs:List (List Pr)} (h:ReadV w v cs):∃ A cap,v=.slice A cs.length cap:=by
  obtain⟨A,cap,rfl,_⟩:=h
  exact⟨A,cap,rfl⟩
def OwnG (B:Nat) (w:World) (v:Value) (us:List Value):Prop:=w.ownsRow B 22 1 v us.length us
theorem OwnG.nil (B:Nat) (w:World):OwnG B w (.slice none 0 0) []:=World.ownsRow_nil _ _ _ _
theorem OwnG.slice {B:Nat} {w:World} {v:Value} {l:List Value} (h:OwnG B w v l):∃ A cap,v=.slice A l.length cap:=by
  rcases h.2 with ⟨rfl,h0⟩ | ⟨g,cap,cur,rfl,_⟩
  · exact⟨none,0,by rw[h0]⟩
  · exact⟨_,_,rfl⟩
theorem OwnG.keep {B:Nat} {w w':World} {v:Value} {l:List Value} (h:OwnG B w v l) (hb:∀ g cs,Bk w g 22 cs→Bk w' g 22 cs):OwnG B w' v l :=
  ⟨h.1,h.2.imp id fun ⟨g,cap,cur,k1,k2,k3,k4⟩=>⟨g,cap,cur,k1,k2,hb g cur k3,k4⟩⟩
theorem OwnG.below {B:Nat} {w w':World} {v:Value} {l:List Value} (h:OwnG B w v l) (hb:Below w.heap.size w w'):OwnG B w' v l:=h.keep (fun _ _ hg=>(hb.block _ hg.lt).trans hg)
theorem OwnG.reads {B:Nat} {w:World} {v:Value} {us:List Value} {cs:List (List Pr)} (h:OwnG B w v us) (hl:us.length=cs.length) (hr:∀ (i:Nat) (u:Value) (c:List Pr),us[i]?=some u→cs[i]?=some c→ReadP w u c):ReadV w v cs:=by
  have h':w.ownsRow B 22 1 v us.length us:=h
  rcases h'.2 with ⟨rfl,h0⟩ | ⟨g,cap,cur,rfl,hg,hh,h1,h2,h3,h4⟩
  · refine⟨none,0,by rw[← hl,h0],fun h=>by omega⟩
  · refine⟨_,cap,by rw[hl],fun _=>⟨_,rfl,lt_of_block hh,fun i c hi=>?_⟩⟩
    have hi2:=(List.getElem?_eq_some_iff.1 hi).1
    have hu:us[i]?=some us[i]:=List.getElem?_eq_getElem (by omega)
    refine⟨us[i],?_,hr i _ c hu hi⟩
    rw[add_at,Nat.zero_add]
    have hk:Bk w g 22 cur:=hh
    rw[hk.cell,← Array.getElem?_toList,← hu]
    conv=>rhs;rw[← h4]
    rw[List.getElem?_take_of_lt (by omega)]
theorem RowP.one {C:Nat} {w:World} {v:Value} {ps:List Pr} (h:RowP C w v ps):v.oneCell'=true:=by
  obtain⟨A,cap,rfl,_⟩:=h
  rfl
end Go.Proofs.YtfbdnaclkfmiaaaGreatDoor
end
section
namespace Go.Proofs.YtfbdnaclkfmiaaaGreatDoor
open Go.RowKit Vc
def ReadsV (B:Nat) (w:World) (l:List UInt8) (e:Ending) (w':World):Prop :=
  (∃ v,e=.returned (.tuple #[v,.int .i64 ((readV l).2.1:Nat),.int .i64 ((readV l).2.2:Nat)])∧ReadV w' v (readV l).1)∧Below B w w'
theorem ReadsV.of {B:Nat} {w w':World} {l:List UInt8} {v:Value} {r:List (List Pr) × Nat × Nat} {z1 z2:Int} (h:readV l=r) (hv:ReadV w' v r.1) (h1:(r.2.1:Int)=z1) (h2:(r.2.2:Int)=z2) (hb:Below B w w'):ReadsV B w l (.returned (.tuple #[v,.int .i64 z1,.int .i64 z2])) w':=by
  subst h h1 h2
  exact⟨⟨v,rfl,hv⟩,hb⟩
end Go.Proofs.YtfbdnaclkfmiaaaGreatDoor
end
section
namespace Go.Proofs.YtfbdnaclkfmiaaaGreatDoor
open Go.RowKit Vc
def OkwV (w:World):Prop:=Tabs w∧MaxL w∧Folds w
theorem OkwV.below {w w':World} (h:OkwV w) (hb:Below w.heap.size w w'):OkwV w':=⟨h.1.below hb,h.2.1.below hb,h.2.2.below hb⟩
end Go.Proofs.YtfbdnaclkfmiaaaGreatDoor
end
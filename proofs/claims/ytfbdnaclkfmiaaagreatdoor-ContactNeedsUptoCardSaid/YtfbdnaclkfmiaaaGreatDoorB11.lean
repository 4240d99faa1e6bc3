import Derived.WalkKit
import Derived.Lib.Strings
import Derived.Lib.Hide
import Derived.Test.YtfbdnaclkfmiaaaGreatDoorB08
import Derived.Test.YtfbdnaclkfmiaaaGreatDoorB05
import Derived.Test.YtfbdnaclkfmiaaaGreatDoorB06
import Derived.Deep.RegionHeld3
section
namespace Go.Proofs.YtfbdnaclkfmiaaaGreatDoor
open Go.RowKit
theorem wraps_i64_40 (n:Int) (h₀:0≤n) (h₁:n < 2 ^ 40):IntKind.i64.wrap n=n:=by rw[IntKind.wrap_i64];omega
theorem or6 (c y:Int) (hc:0≤c) (hc1:c < 4294967296) (h0:0≤y) (h1:y < 64):bits .or .i64 (c*64) y=c*64+y :=
  bits_join .i64 40 (by decide) wraps_i64_40 6 (c*64) y (by omega) (by omega) (by omega) h0 h1 (by omega)
set_option maxRecDepth 100000 in
theorem and192 (x:Int) (h0:0≤x) (h1:x < 256):(bits .and .u8 x 192 != 128)=!(x / 64==2):=by
  have h:∀ y:Fin 256,(bits .and .u8 ((y.val:Nat):Int) 192 != 128)=!(((y.val:Nat):Int) / 64==2):=by decide
  have:=h ⟨x.toNat,by omega⟩
  rwa [show (((⟨x.toNat,by omega⟩:Fin 256).val:Nat):Int)=x from by simp;omega] at this
theorem and31 (x:Int) (h0:0≤x) (h1:x < 256):bits .and .i64 x 31=x % 32:=bits_mask .i64 40 (by decide) wraps_i64_40 5 (by decide) x h0 (by omega)
theorem and15 (x:Int) (h0:0≤x) (h1:x < 256):bits .and .i64 x 15=x % 16:=bits_mask .i64 40 (by decide) wraps_i64_40 4 (by decide) x h0 (by omega)
theorem and7 (x:Int) (h0:0≤x) (h1:x < 256):bits .and .i64 x 7=x % 8:=bits_mask .i64 40 (by decide) wraps_i64_40 3 (by decide) x h0 (by omega)
end Go.Proofs.YtfbdnaclkfmiaaaGreatDoor
end
section
namespace Go.Proofs.YtfbdnaclkfmiaaaGreatDoor
theorem ret_str {a b:ByteArray} (h:a=b):Ending.returned (.string a)=.returned (.string b):=by rw[h]
theorem bytes_of {o:ByteArray} {l:List UInt8} (h:o.data.toList=l):o=⟨l.toArray⟩:=by
  subst h
  rfl
theorem cat_list (a b:ByteArray):(a++b).data.toList=a.data.toList++b.data.toList:=by simp
theorem mid_cut {s:ByteArray} {a b:Nat}:(s.extract a b).data.toList=(s.data.toList.drop a).take (b - a):=by simp[ByteArray.data_extract]
theorem drop_step {s:ByteArray} {k:Nat} (h:k < s.size):s.data.toList.drop k=(s[k]'h)::s.data.toList.drop (k+1):=by
  have h':k < s.data.toList.length:=by rw[← Lib.size_eq];exact h
  exact List.drop_eq_getElem_cons h'
theorem byte_ne {c:UInt8} {z:Int} (hz:(c.toNat:Int)=z) {d:UInt8} (h:c≠d):(z==(d.toNat:Int))=false:=by
  rw[beq_eq_false_iff_ne]
  intro e
  exact h (UInt8.toNat_inj.1 (by omega))
end Go.Proofs.YtfbdnaclkfmiaaaGreatDoor
end
section
namespace Go.Proofs.YtfbdnaclkfmiaaaGreatDoor
open Go.RowKit Rg Tx
theorem bytes_eq {b:ByteArray} {l:List UInt8} (h:b.data.toList=l):Value.string b=.string ⟨l.toArray⟩:=by rw[bytes_of h]
theorem oneRune {P:Program} {tb ts te:TypeId} (hb:P.underlying tb=some (.slice te)) (he:P.underlying te=some (.int .i32)) (hs:P.underlying ts=some .string) (x:Nat) (w:World) :
    (convert tb ts (.slice (some ⟨w.heap.size,0,none⟩) 1 1)).run P (w.alloc (.cells #[.int .i32 x] te))=.ok (.string ⟨(enc x).toArray⟩) (w.alloc (.cells #[.int .i32 x] te)):=by
  rw[run_convert_runes_string _ tb ts te _ _ _ hb he hs]
  have:=run_runesToString (P:=P) (w.alloc (.cells #[.int .i32 x] te)) ⟨w.heap.size,0,none⟩ 1 1 [(x:Int)] (by
    have h:=run_loadCells_list (P:=P) (w:=w.alloc (.cells #[.int .i32 x] te)) ⟨w.heap.size,0,none⟩ [.int .i32 x] (by
      intro j v hj
      match j,hj with
      | 0,hj=>simp at hj;subst hj;simp[Addr.add])
    exact h)
  rw[this,bytes_eq (l:=enc x) (by
    rw[← enc_model]
    unfold runesBytes
    rw[List.foldl_cons,List.foldl_nil,cat_list,show (ByteArray.empty).data.toList=[] from rfl,List.nil_append])]
set_option maxHeartbeats 400000 in
set_option maxRecDepth 100000 in
theorem utf_any (c:Nat) (w:World) (hc:c≤1114111) :
    Calls Tryz.prog 233 #[.int .i64 c] w fun e w'=>e=.returned (.string ⟨(enc c).toArray⟩)∧Below w.heap.size w w':=by
  have hcv:=oneRune (P:=Tryz.prog) Tryz.underlying256 Tryz.underlying21 Tryz.underlying9 c w
  obtain⟨z,hz⟩:∃ z:Int,(c:Int)=z:=⟨_,rfl⟩
  have z0:0≤z:=by omega
  have z1:z≤1114111:=by omega
  rw[hz] at hcv ⊢
  clear hz hc
  obtain⟨x,hx⟩:∃ x,(enc c).toArray=x:=⟨_,rfl⟩
  rw[hx] at hcv ⊢
  clear hx
  go_enter Tryz.func233,Tryz.ntmps233
  go_wp2
  go_ret
  exact⟨rfl,(Below.refl _ _).alloc (Nat.le_refl _) _⟩
set_option maxHeartbeats 1000000 in
theorem rtexts_any (v:Value) (x:List Nat) (w:World) (hv:Reads w.heap.size w v x) (hl:x.length≤1000000000) (hx0:∀ c∈x,c≤1114111) :
    Calls Tryz.prog 200 #[v] w fun e w'=>e=.returned (.string ⟨(flat x).toArray⟩)∧Below w.heap.size w w':=by
  obtain⟨A,cap,rfl,hx⟩:=hv
  have HX:=Lib.hid hx
  have HL:=Lib.hid (fun k=>flat_len (x.take k))
  have H0:=Lib.hid hx0
  have HU:=Lib.hid utf_any
  obtain⟨r,hr⟩:∃ r:ByteArray,(⟨(flat x).toArray⟩:ByteArray)=r:=⟨_,rfl⟩
  rw[hr]
  have HR:=Lib.hid hr
  clear hx hx0 hr
  go_enter Tryz.func200,Tryz.ntmps200
  go_wp2_with fail
  go_loopw [3,4] (fun s i wr=>∃ (k:Nat) (S:ByteArray),s=.string S∧k≤x.length∧i=.int .i64 k∧Below w.heap.size w wr∧Hid (S.data.toList=flat (x.take k))∧S.size≤4*k) (fun _ i _=>x.length - (intOf i).toNat)
  case atStart=>exact⟨0,_,rfl,Nat.zero_le _,rfl,Below.refl _ _,by unfold Hid;rw[List.take_zero,flat_nil],Nat.zero_le _⟩
  case round =>
    obtain⟨k,S,rfl,hk,rfl,hb,hS,hSz⟩:=hrel
    have hsw:=hb.size
    by_cases hlt:k < x.length
    · obtain⟨ad,rfl,hlb,hc⟩:=HX.out (by omega)
      have c0:=hc k hlt
      rw[← hb.cell (p:=ad.add k) (by rw[addBlock];omega)] at c0
      obtain⟨c,hcx⟩:∃ c,x.getD k 0=c:=⟨_,rfl⟩
      have hcm:c≤1114111:=H0.out c (by rw[← hcx,List.getD,List.getElem?_eq_getElem hlt];exact List.getElem_mem hlt)
      have htk:=Lib.hid (flat_take hlt)
      rw[hcx] at c0 htk
      have HN:=Lib.hid (HU.out c wr hcm)
      obtain⟨T,hT⟩:∃ T:ByteArray,(⟨(enc c).toArray⟩:ByteArray)=T:=⟨_,rfl⟩
      have hTs:T.size≤4:=by
        have:=(enc_len (n:=c)).2
        rw[← hT,Lib.size_eq]
        simpa using this
      have hTl:Hid (T.data.toList=enc c):=by unfold Hid;rw[← hT]
      rw[hT] at HN
      clear hc hcx hT hcm
      go_wp2_with fail
      refine HN.out.mono ?_
      rintro e w2 ⟨rfl,b2⟩
      have hb2:Below w.heap.size w w2:=hb.trans (b2.mono hsw)
      have hST:Hid ((S++T).data.toList=flat (x.take (k+1))):=by unfold Hid;rw[cat_list,hS.out,hTl.out,htk.out]
      clear b2 htk HN
      go_wp2_with fail
      go_roundw
      case rel=>exact⟨k+1,_,rfl,by omega,by go_num,hb2,hST,by rw[ByteArray.size_append];omega⟩
      case measure=>simp[intOf];omega
    · have hke:k=x.length:=by omega
      have hf:Hid (S=r):=by
        unfold Hid
        have:=hS.out
        rw[hke,List.take_length] at this
        rw[← HR.out]
        exact bytes_of this
      clear hke
      go_wp2_with fail
      go_ret
      exact⟨ret_str hf.out,hb⟩
set_option maxHeartbeats 4000000 in
theorem rmapped_any (v:Value) (x:List Nat) (all:Bool) (w:World) (hv:Reads w.heap.size w v x) (hl:x.length≤100000000000) (hx0:∀ c∈x,c≤1114111) :
    Calls Tryz.prog 197 #[v,.bool all] w fun e w'=>∃ d,e=.returned d∧Owned w.heap.size w' d (x.flatMap (Pr.one all))∧Below w.heap.size w w':=by
  obtain⟨A,cap,rfl,hx⟩:=hv
  have hf:∀ c,(Pr.one all c).length≤2:=fun c=>by
    unfold Pr.one Pr.put Pr.small
    repeat' split
    all_goals simp
  have HX:=Lib.hid hx
  have HL:=Lib.hid (fun k=>flatMap_len hf (x.take k))
  have H0:=Lib.hid hx0
  have HG:=Lib.hid refGone_any
  have HI:=Lib.hid (fun (B c:Nat) v W (h:OwnR B W v goneL)=>refIn_any v goneL c W h.reads (by simp[goneL]))
  clear hx hx0 hf
  go_enter Tryz.func197,Tryz.ntmps197
  go_wp2_with fail
  go_loopw [5,6] (fun vv i wr=>∃ (k:Nat) (d:Value),vv=d∧k≤x.length∧i=.int .i64 k∧Below w.heap.size w wr∧Hid (Owned w.heap.size wr d ((x.take k).flatMap (Pr.one all)))) (fun _ i _=>x.length - (intOf i).toNat)
  case atStart=>exact⟨0,_,rfl,Nat.zero_le _,rfl,Below.refl _ _,Owned.nil _ _⟩
  case round =>
    obtain⟨k,d,hd,hk,rfl,hb,ho⟩:=hrel
    have hd2:=hd.symm
    clear hd
    subst hd2
    have hsw:=hb.size
    by_cases hlt:k < x.length
    · obtain⟨ad,rfl,hlb,hc⟩:=HX.out (by omega)
      have c0:=hc k hlt
      rw[← hb.cell (p:=ad.add k) (by rw[addBlock];omega)] at c0
      obtain⟨c,hcx⟩:∃ c,x.getD k 0=c:=⟨_,rfl⟩
      have hcm:c≤1114111:=H0.out c (by rw[← hcx,List.getD,List.getElem?_eq_getElem hlt];exact List.getElem_mem hlt)
      have htk:=Lib.hid (flatMap_take (f:=Pr.one all) hlt)
      rw[hcx] at c0 htk
      have hlen:=HL.out k
      rw[List.length_take] at hlen
      have HIC:=Lib.hid (fun B v W (h:OwnR B W v goneL)=>HI.out B c v W h)
      obtain⟨y,hy⟩:∃ y,(x.take k).flatMap (Pr.one all)=y:=⟨_,rfl⟩
      rw[hy] at htk ho hlen
      obtain⟨A2,c2,hd⟩:=ho.out.slice
      obtain⟨n2,hn2⟩:∃ n2,y.length=n2:=⟨_,rfl⟩
      rw[hn2] at hd
      subst hd
      have hyl:Hid (y.length≤200000000000):=by unfold Hid;omega
      obtain⟨z,hz⟩:∃ z:Int,(c:Int)=z:=⟨_,rfl⟩
      rw[hz] at c0 HIC
      have hz0:0≤z:=by omega
      have hz1:z≤1114111:=by omega
      obtain⟨g,hg⟩:∃ g,inL goneL z=g:=⟨_,rfl⟩
      rw[hg] at HIC
      have HGC:Hid (Pr.gone c=g):=by unfold Hid Pr.gone;rw[hz];exact hg
      have HZ:=Lib.hid hz
      clear hc hcx hlen hy hn2 hcm hg hz
      go_wp2_with fail
      refine(HG.out wr).mono ?_
      rintro e w2 ⟨v2,rfl,o2,b2⟩
      have B2:=Lib.hid (hb.trans (b2.mono hsw))
      have P2:=Lib.hid (ho.out.below b2)
      have O2:=Lib.hid o2
      obtain⟨A5,c5,rfl⟩:=o2.slice
      clear o2 b2
      go_wp2_with fail
      refine(HIC.out _ _ w2 O2.out).mono ?_
      rintro e w3 ⟨rfl,b3⟩
      have B3:=B2.out.trans (b3.mono B2.out.size)
      have P3:=Lib.hid (P2.out.below b3)
      have hs3:=B3.size
      clear b3
      cases g with
      | true =>
        have P4:Hid (Owned w.heap.size w3 (.slice A2 n2 c2) ((x.take (k+1)).flatMap (Pr.one all))):=by
          unfold Hid
          rw[htk.out,show Pr.one all c=[] by unfold Pr.one;rw[HGC.out];rfl,List.append_nil]
          exact P3.out
        go_wp2_with fail
        go_roundw
        case rel=>exact⟨k+1,_,rfl,by omega,by go_num,B3,P4⟩
        case measure=>simp[intOf];omega
      | false =>
        have hone:Hid (Pr.one all c=Pr.put all c):=by unfold Hid Pr.one;rw[HGC.out];rfl
        have hfin:Hid (∀ (p:List Nat) (W:World) (u:Value),Pr.put all c=p→Owned w.heap.size W u (y++p)→Owned w.heap.size W u ((x.take (k+1)).flatMap (Pr.one all))):=fun p W u hp h=>by
          rw[htk.out,hone.out,hp]
          exact h
        cases all with
        | false =>
          have hp:Hid (Pr.put false c=[c]):=rfl
          have hcs:=Lib.hid (ints_of1 c)
          rw[HZ.out] at hcs
          go_wp2_with (at_builtin;refine push_ints rfl _ _ rfl w.heap.size (.slice A2 n2 c2) y [c] _ 1 w3 hcs.out rfl rfl P3.out rfl (by have:=hyl.out;simp;omega) hs3 ?_)
          intro v' w' o4 b4
          have O4:=Lib.hid (hfin.out _ _ _ hp.out o4)
          have B4:=B3.trans b4
          clear o4 b4
          go_wp2_with fail
          go_roundw
          case rel=>exact⟨k+1,_,rfl,by omega,by go_num,B4,O4⟩
          case measure=>simp[intOf];omega
        | true =>
          by_cases h0:c=223
          · have hp:Hid (Pr.put true c=[115,115]):=by unfold Hid Pr.put Pr.small;rw[if_pos rfl,if_pos h0]
            have hcs:=Lib.hid (ints_of2 115 115)
            have hzz:z=223:=by rw[← HZ.out,h0];rfl
            subst hzz
            clear h0
            go_wp2_with (at_builtin;refine push_ints rfl _ _ rfl w.heap.size (.slice A2 n2 c2) y [115,115] _ 2 w3 hcs.out rfl rfl P3.out rfl (by have:=hyl.out;simp;omega) hs3 ?_)
            intro v' w' o4 b4
            have O4:=Lib.hid (hfin.out _ _ _ hp.out o4)
            have B4:=B3.trans b4
            clear o4 b4
            go_wp2_with fail
            go_roundw
            case rel=>exact⟨k+1,_,rfl,by omega,by go_num,B4,O4⟩
            case measure=>simp[intOf];omega
          · have hz223:z≠223:=by rw[← HZ.out];omega
            have g0:(z==223)=false:=by simpa using hz223
            cases hcap:Pr.capital c with
            | true =>
              have hp:Hid (Pr.put true c=[c+32]):=by unfold Hid Pr.put Pr.small;rw[if_pos rfl,if_neg h0,hcap];rfl
              have hcs:=Lib.hid (ints_of1 (c+32))
              have h3:=Pr.capital_iff.1 hcap
              have hzc:=HZ.out
              have e1:((c+32:Nat):Int)=z+32:=by omega
              rw[e1] at hcs
              rcases(show (decide (65≤z)=true∧decide (z≤90)=true)∨(decide (z≤90)=false∧decide (65≤z)=true∧decide (192≤z)=true∧decide (z≤222)=true∧(z != 215)=true) by
                simp only[decide_eq_true_eq,decide_eq_false_iff_not,bne_iff_ne];omega) with ⟨g1,g2⟩ | ⟨g2,g1,g3,g4,g5⟩
              all_goals
                clear hcap h3 h0 hzc e1 hz223
                go_wp2_with (at_builtin;refine push_ints rfl _ _ rfl w.heap.size (.slice A2 n2 c2) y [c+32] _ 1 w3 hcs.out rfl rfl P3.out rfl (by have:=hyl.out;simp;omega) hs3 ?_)
                intro v' w' o4 b4
                have O4:=Lib.hid (hfin.out _ _ _ hp.out o4)
                have B4:=B3.trans b4
                clear o4 b4
                go_wp2_with fail
                go_roundw
                case rel=>exact⟨k+1,_,rfl,by omega,by go_num,B4,O4⟩
                case measure=>simp[intOf];omega
            | false =>
              have hp:Hid (Pr.put true c=[c]):=by unfold Hid Pr.put Pr.small;rw[if_pos rfl,if_neg h0,hcap];rfl
              have hcs:=Lib.hid (ints_of1 c)
              have h3:¬(65≤c∧c≤90∨192≤c∧c≤222∧c≠215):=fun h=>by
                rw[Pr.capital_iff.2 h] at hcap
                cases hcap
              have hzc:=HZ.out
              rw[hzc] at hcs
              rcases(show (decide (65≤z)=false∧decide (192≤z)=false)∨(decide (65≤z)=true∧decide (z≤90)=false∧decide (192≤z)=false)∨(decide (65≤z)=true∧decide (z≤90)=false∧decide (192≤z)=true∧decide (z≤222)=false)∨(decide (65≤z)=true∧decide (z≤90)=false∧decide (192≤z)=true∧decide (z≤222)=true∧(z != 215)=false) by
                simp only[decide_eq_true_eq,decide_eq_false_iff_not,bne_eq_false_iff_eq];omega) with ⟨g1,g2⟩ | ⟨g1,g2,g3⟩ | ⟨g1,g2,g3,g4⟩ | ⟨g1,g2,g3,g4,g5⟩
              all_goals
                clear hcap h3 h0 hzc hz223
                go_wp2_with (at_builtin;refine push_ints rfl _ _ rfl w.heap.size (.slice A2 n2 c2) y [c] _ 1 w3 hcs.out rfl rfl P3.out rfl (by have:=hyl.out;simp;omega) hs3 ?_)
                intro v' w' o4 b4
                have O4:=Lib.hid (hfin.out _ _ _ hp.out o4)
                have B4:=B3.trans b4
                clear o4 b4
                go_wp2_with fail
                go_roundw
                case rel=>exact⟨k+1,_,rfl,by omega,by go_num,B4,O4⟩
                case measure=>simp[intOf];omega
    · have hke:k=x.length:=by omega
      have ho2:Hid (Owned w.heap.size wr d (x.flatMap (Pr.one all))):=by
        have:=ho.out
        rw[hke,List.take_length] at this
        exact this
      clear hke
      go_wp2_with fail
      go_ret
      exact⟨_,rfl,ho2.out,hb⟩
set_option maxHeartbeats 1000000 in
theorem hin_any (v:Value) (x:List Nat) (z:Int) (w:World) (hv:Reads w.heap.size w v x) (hl:x.length≤100000000000) :
    Calls Tryz.prog 230 #[v,.int .i64 z] w fun e w'=>e=.returned (.bool (x.any fun c=>(c:Int)==z))∧w=w':=by
  obtain⟨A,cap,rfl,hx⟩:=hv
  have HX:=Lib.hid hx
  have HH:=Lib.hid (fun (k:Nat) (h:k < x.length) (h2:((x.getD k 0:Nat):Int)==z)=>any_hit (p:=fun c:Nat=>(c:Int)==z) h h2)
  have HM:=Lib.hid (fun (h:∀ k,k < x.length→(((x.getD k 0:Nat):Int)==z)=false)=>any_miss (p:=fun c:Nat=>(c:Int)==z) h)
  obtain⟨r,hr⟩:∃ r,(x.any fun c=>(c:Int)==z)=r:=⟨_,rfl⟩
  rw[hr] at HH HM ⊢
  clear hx hr
  go_enter Tryz.func230,Tryz.ntmps230
  go_wp2_with fail
  go_loop [5] (fun i=>∃ (k:Nat),k≤x.length∧i=.int .i64 k∧Hid (∀ j,j < k→(((x.getD j 0:Nat):Int)==z)=false)) (fun i=>x.length - (intOf i).toNat)
  case atStart=>exact⟨0,Nat.zero_le _,rfl,Lib.hid (fun j h=>absurd h (Nat.not_lt_zero _))⟩
  case round =>
    obtain⟨k,hk,rfl,hno⟩:=hrel
    by_cases hlt:k < x.length
    · obtain⟨ad,rfl,hlb,hc⟩:=HX.out (by omega)
      have c0:=hc k hlt
      obtain⟨y,hy⟩:∃ y:Int,((x.getD k 0:Nat):Int)=y:=⟨_,rfl⟩
      rw[hy] at c0
      have HY:=Lib.hid hy
      clear hc hy
      rcases Bool.eq_false_or_eq_true (y==z) with h | h
      · have hf:=Lib.hid (HH.out k hlt (by rw[HY.out];exact h))
        go_wp2_with fail
        go_ret
        exact⟨ret_bool hf.out.symm,rfl⟩
      · have hno2:Hid (∀ j,j < k+1→(((x.getD j 0:Nat):Int)==z)=false):=Lib.hid (fun j hj=>by
          rcases Nat.lt_or_ge j k with h3 | h3
          · exact hno.out j h3
          · obtain rfl:j=k:=by omega
            rw[HY.out]
            exact h)
        go_wp2_with fail
        go_round
        case rel=>exact⟨k+1,by omega,by go_num,hno2⟩
        case measure=>simp[intOf];omega
    · have hke:k=x.length:=by omega
      have hf:=Lib.hid (HM.out (fun j hj=>hno.out j (by omega)))
      clear hke
      go_wp2_with fail
      go_ret
      exact⟨ret_bool hf.out.symm,rfl⟩
end Go.Proofs.YtfbdnaclkfmiaaaGreatDoor
end
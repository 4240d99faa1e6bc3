import Derived.Test.YtbgaglcgennhiaaGreatDoorQ05
import Derived.Shelf.GgSortFunc.SmallK
set_option maxHeartbeats 1000000
set_option maxRecDepth 100000
namespace Go.Proofs.YtbgaglcgennhiaaGreatDoor
open Go.RowKit Go.Lib Go.Sort Sy
def swTail:String:= ".Swapper"++String.singleton (Char.ofNat 36)
theorem sW (t e:TypeId) (i ie:TypeInfo) (hi : Tryz.prog.info? t=some i) (hd:i.desc=.slice e) (hpk : Tryz.prog.packed t=false) (hie : Tryz.prog.info? e=some ie) (ke:Nat) (hke:∀ w,(Extern.Rtype.kind e).run Tryz.prog w=.ok ke w)
 (p:Option Addr) (n c:Nat) (f:Nat) (hf : Tryz.prog.funcs.findIdx? (·.name== "internal/reflectlite"++ swTail++toString (swapperK n ie ke))=some f) (lf:Fn) (la lb:Array Value) (w:World) (R:World->Prop)
 (hp:Calls Tryz.prog 105 #[.agg #[.func lf la lb,.func (.func f) #[] (sliceBound Tryz.prog e ie ke p n c)],.int .i64 n] ((w.alloc (.cells #[.slice p n c] t)).alloc (.cells #[.pointer (some ⟨Tryz.prog.globals.size,t,none⟩),.pointer (some ⟨w.heap.size,0,none⟩),.int .u64 151] 122)) fun e w'=>e=.returned (.tuple #[])/\R w'):
 Calls Tryz.prog 77 #[.iface t (.slice p n c),.func lf la lb] w fun e w'=>e=.returned (.tuple #[])/\R w':=by
 have hv:=run_valueOf_slice (P:=Tryz.prog) t e i hi hd p n c w;have hs:=fun w=>run_swapper_slice (P:=Tryz.prog) t e i ie hi hd hie ke hke p n c f (Eq.mp (congrArg (a₁:=swTail) (fun s:String=>Tryz.prog.funcs.findIdx? (·.name== "internal/reflectlite"++s++toString (swapperK n ie ke))=some f) (by kernel_rfl)) hf) w
 have hl:=fun a w ha=>run_valueLen_slice (P:=Tryz.prog) t e i hi hd hpk a p n c w ha
 unfold sliceBound at hp;generalize (if swapperK n ie ke<=2 then (#[]:Array Value) else #[.slice p n c,typeHandle Tryz.prog e])=B at hs hp;simp only[typeHandle] at hv hl;obtain⟨gz,hgz⟩:=ac (Tryz.prog.globals.size);simp only[hgz] at hv hl hp;clear hgz;have HP:=aa hp;clear hp;go_enter Tryz.func77,Tryz.ntmps77;go_wp2
 rw[run_callFunc_extern Tryz.func103 (by kernel_rfl) (by kernel_rfl) (by kernel_rfl) (e:=fun args=>Extern.ReflectliteValue.unpack (args.getD 0 (.tuple #[]))) (by kernel_rfl),
  show Sem.run Tryz.prog ((fun args:Array Value=>Extern.ReflectliteValue.unpack (args.getD 0 (.tuple #[]))) #[.iface t (.slice p n c)]) w=_ from hv]
 simp only[Result.andThen];rw[Oper.upon_value];go_wp2
 rw[run_callFunc_extern Tryz.func104 (by kernel_rfl) (by kernel_rfl) (by kernel_rfl) (e:=Extern.ReflectliteSwapper.swapper "internal/reflectlite" (Extern.ReflectliteValue.valueError "Swapper")) (by kernel_rfl),hs];simp only[Result.andThen];rw[Oper.upon_value];go_wp2
 rw[run_callFunc_extern Tryz.func106 (by kernel_rfl) (by kernel_rfl) (by kernel_rfl) (e:=Extern.ReflectliteValue.method (Extern.ReflectliteValue.valueError "reflectlite.Value.Len" 0) Extern.ReflectliteValue.len) (by kernel_rfl),
  hl _ _ (by simp)]
 simp only[Result.andThen];rw[Oper.upon_value];go_wp2_with fail
 refine HP.out.mono ?_;rintro e w' ⟨rfl,hR⟩;go_wp2_with fail
 go_end0;exact⟨rfl,hR⟩
variable {α:Type} [Inhabited α] {enc:α->List Value} {k:Nat} {lt:α->α->Bool}
theorem ft (t e:TypeId) (i ie:TypeInfo) (hi : Tryz.prog.info? t=some i) (hd:i.desc=.slice e) (hpk : Tryz.prog.packed t=false) (hie : Tryz.prog.info? e=some ie) (ke:Nat) (hke:∀ w,(Extern.Rtype.kind e).run Tryz.prog w=.ok ke w)
 (p:Option Addr) (c:Nat) (f:Nat) (hf : Tryz.prog.funcs.findIdx? (·.name== "internal/reflectlite"++ swTail++toString (swapperK 0 ie ke))=some f) (g:Nat) (lb:Array Value) (eg:∀ args w,(callFunc g args).run Tryz.prog w=.ok (.enter g args) w) (w:World):
 Calls Tryz.prog 77 #[.iface t (.slice p 0 c),.func (.func g) #[] lb] w fun e w'=>e=.returned (.tuple #[])/\Below w.heap.size w w':=by
 refine sW t e i ie hi hd hpk hie ke hke p 0 c f hf (.func g) #[] lb w _ ?_;obtain⟨W1,hW1⟩:=ac (w.alloc (.cells #[.slice p 0 c] t));rw[hW1];obtain⟨W2,hW2⟩:=ac (W1.alloc (.cells #[.pointer (some ⟨Tryz.prog.globals.size,t,none⟩),.pointer (some ⟨w.heap.size,0,none⟩),.int .u64 151] 122));rw[hW2];have b1:Below w.heap.size w W1:=by rw[<-hW1];exact bp _ _
 have b2:Below w.heap.size w W2:=by rw[<-hW2];exact b1.alloc b1.size _
 have hsz:w.heap.size<W2.heap.size:=by rw[<-hW2,<-hW1,World.size_alloc,World.size_alloc];omega
 have hS:St (fun _:Nat=>[Value.bool false]) 1 W2 w.heap.size ([]:List Nat).toArray W2:=⟨World.grownBy.refl _ _,fun j hj=>absurd hj (by simp),hsz⟩;have hW:Weak (fun _ _:Nat=>false):=⟨fun h=>absurd h (by decide),fun h=>absurd h (by decide)⟩;have hC:LS (fun _:Nat=>[Value.bool false]) 1 (fun _ _:Nat=>false) 0 g lb f (sliceBound Tryz.prog e ie ke p 0 c) W2 w.heap.size:=⟨eg,fun _ _ _ _ i j hi _=>absurd hi (Nat.not_lt_zero _),fun _ _ _ _ i j hi _=>absurd hi (Nat.not_lt_zero _)⟩;refine(iJ hW [] 0 W2 w.heap.size hC rfl (by omega) hS).mono ?_;rintro e w' ⟨rfl,S2⟩;exact⟨rfl,b2.grown S2.grown (by omega) (fun j hj=>by injection hj with hj;omega)⟩
theorem du (hW:Weak lt) (t e:TypeId) (i ie:TypeInfo) (hi : Tryz.prog.info? t=some i) (hd:i.desc=.slice e) (hpk : Tryz.prog.packed t=false) (hie : Tryz.prog.info? e=some ie) (ke:Nat) (hke:∀ w,(Extern.Rtype.kind e).run Tryz.prog w=.ok ke w)
 (R:Enc enc k) (g:Nat) (lb:Array Value) (eg:∀ args w,(callFunc g args).run Tryz.prog w=.ok (.enter g args) w) (L:List α) (n c:Nat) (hl:L.length=n) (hn:n<=400000000) (B:Nat) (w:World)
 (f:Nat) (hf : Tryz.prog.funcs.findIdx? (·.name== "internal/reflectlite"++ swTail++toString (swapperK n ie ke))=some f)
 (hsw:2<=n->SwapSwapsK Tryz.prog f #[.slice (some ⟨B,0,none⟩) n c,typeHandle Tryz.prog e] enc k B 0 n)
 (hless:∀ (d:Array α) (W:World),d.size=n->St enc k w B d W->∀ i j:Nat,i<n->j<n->Calls Tryz.prog g (#[.int .i64 (i:Int),.int .i64 (j:Int)]++lb) W fun e w'=>e=.returned (.bool (lt d[i]! d[j]!))/\Below W.heap.size W w')
 (hS:St enc k w B L.toArray w):
 Calls Tryz.prog 77 #[.iface t (.slice (some ⟨B,0,none⟩) n c),.func (.func g) #[] lb] w fun e w'=>e=.returned (.tuple #[])/\St enc k w B (af lt L).toArray w':=by
 refine sW t e i ie hi hd hpk hie ke hke (some ⟨B,0,none⟩) n c f hf (.func g) #[] lb w _ ?_;have S1:=(hS.alloc (.cells #[.slice (some ⟨B,0,none⟩) n c] t)).alloc (.cells #[.pointer (some ⟨Tryz.prog.globals.size,t,none⟩),.pointer (some ⟨w.heap.size,0,none⟩),.int .u64 151] 122);generalize (w.alloc (.cells #[.slice (some ⟨B,0,none⟩) n c] t)).alloc (.cells #[.pointer (some ⟨Tryz.prog.globals.size,t,none⟩),.pointer (some ⟨w.heap.size,0,none⟩),.int .u64 151] 122)=W1 at S1 ⊢;have hC:LS enc k lt n g lb f (sliceBound Tryz.prog e ie ke (some ⟨B,0,none⟩) n c) W1 B:=by
  refine⟨eg,fun d W hd hs=>hless d W hd (S1.trans hs),fun d W hd hs i j hi hj hij=>?_⟩;have h2:2<=n:=by omega
  have hB:sliceBound Tryz.prog e ie ke (some ⟨B,0,none⟩) n c=#[.slice (some ⟨B,0,none⟩) n c,typeHandle Tryz.prog e]:=by unfold sliceBound;rw[if_neg (swapperK_gt _ _ _ h2)]
  rw[hB];have hr:=hsw h2 W d hs.holds hd i j hi hj;rw[Nat.zero_add,Nat.zero_add] at hr;exact⟨_,hr,hs.base.swap R i j (by omega) (by omega)⟩
 refine(iJ hW L n W1 B hC hl hn S1.base).mono ?_;rintro e w' ⟨rfl,S2⟩;exact⟨rfl,S1.trans S2⟩
end Go.Proofs.YtbgaglcgennhiaaGreatDoor

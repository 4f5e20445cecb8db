/- Entries, types and classes that. -/
import Derived.Test.YtijglbolppkefaaGreatDoorMDqJ
import Derived.Test.YtijglbolppkefaaGreatDoorMLayw
import Derived.Deep.SlicePairs
import Derived.Lib.SmallJoins
import Derived.OpenShut
import Derived.Test.YtijglbolppkefaaGreatDoorMEnAB
set_option linter.unusedVariables false
set_option linter.unusedSimpArgs false
set_option maxHeartbeats 25600000
set_option maxRecDepth 100000
namespace Go.Proofs.YtijglbolppkefaaGreatDoor
open Go.Proofs.Tryz
open Go Go.ChangeShapes Go.WideShapes Go.RowKit Go.Proofs.MemK Go.Deep Go.Proofs.BerK
variable {w : World} {n : Nat} {v : Value}
theorem zrv {H:Type} {enc:TypeId × Value->H} {P:Program} {t e:TypeId} {x:DataW H × List MemPlace} (ht:P.underlying t=some (.slice e)) (he:P.underlying e=some .string) (hc:P.cellsOf e=1)
  (h:DataW.trod enc P w 0 (fun _=>true) true n t [v]=some x):∃ (a:Option Addr) (c:Nat) (l:List (Bs)),v=.slice a l.length c/\zi8 w (.slice a l.length c) l/\l.length<=maxLen:=by
 have hv:∃ a len c,v=.slice a len c:=by
  rcases open_strings ht he hc h with ⟨bQ,_⟩ | ⟨a,len',cap',ss,bQ,_⟩
  ·injection bQ with hv _;exact ⟨_,_,_,hv⟩
  injection bQ with hv _;exact ⟨_,_,_,hv⟩
 obtain ⟨a,len,c,rfl⟩:=hv
 obtain ⟨l,e1,h1,_,h3⟩:=zx3 (a0:=a) (len:=len) (cap:=c) (d:=x.1) (ps:=x.2) ht he hc ⟨n,h⟩
 subst e1
 exact ⟨a,c,l,rfl,h1,h3⟩
theorem zf1:prog.cellsOf 9 = 1:=by kernel_rfl
theorem zrw:prog.cellsOf 47 = 1:=by kernel_rfl
theorem zrx:prog.cellsOf 74 = 2:=by kernel_rfl
theorem zkI:prog.cellsOf 39 = 2:=by kernel_rfl
theorem zry {H:Type} {enc:TypeId × Value->H} {x:DataW H × List MemPlace} (h:DataW.trod enc prog w 0 (fun _=>true) true n 47 [v]=some x):zam v:=by
 rcases open_strings underlying47 underlying9 zf1 h with ⟨bQ,_⟩ | ⟨a,len',cap',ss,bQ,_⟩
 ·injection bQ with hv _;exact .inl hv
 injection bQ with hv _;exact .inr ⟨_,_,_,hv⟩
theorem zkJ {H:Type} {enc:TypeId × Value->H} {x:DataW H × List MemPlace} (h:DataW.trod enc prog w 0 (fun _=>true) true n 37 [v]=some x) :
  ∃ (a:Option Addr) (c:Nat) (A:List Atr),v=.slice a A.length c/\zak w (.slice a A.length c) A/\A.length<=maxLen:=by
 rcases open_slice_pairs underlying37 underlying74 zrx rfl rfl zf1 zrw h with ⟨bQ,_⟩ | ⟨a,len,cap,m,k,V0,V1,D0,D1,P0,P1,bQ,_,hl,hm,ct,_,hx⟩
 ·injection bQ with hv _
  subst hv
  exact ⟨none,0,[],rfl,⟨.inl rfl,none,0,rfl,fun i hi=>by simp at hi⟩,by decide⟩
 injection bQ with hv _
 subst hv
 simp only [if_true] at ct
 subst ct
 obtain ⟨q,hq⟩:=choose_lt (α:=Atr) (n:=m) (p:=fun i q=>V0 i=.string ⟨q.1.toArray⟩/\TxR w (V1 i) q.2/\zam (V1 i)) (fun i hi=>by
  obtain ⟨s0,e0,_⟩:=DataW.trod_string underlying9 (hx i hi).2.2.1
  have hk:=zry (hx i hi).2.2.2
  obtain ⟨a1,c1,l1,e1,h1,_⟩:=zrv underlying47 underlying9 zf1 (hx i hi).2.2.2
  exact ⟨(s0.data.toList,l1),by simpa using e0,by rw [e1];exact zv4 h1,hk⟩)
 have aF:((List.range len).map q).length=len:=by simp
 refine ⟨some a,m,(List.range len).map q,by rw [aF],⟨.inr ⟨_,_,_,rfl⟩,some a,m,rfl,fun i hi=>?_⟩,by rw [aF];omega⟩
 rw [aF] at hi
 obtain ⟨b,off,spot⟩:=a
 have jw:spot=none:=by simpa [Addr.add] using World.cell?_spot (hx 0 Om).1
 subst jw
 obtain ⟨x0,x1,_,_⟩:=hx i Om
 obtain ⟨y0,y1,y2⟩:=hq i Om
 rw [y0] at x0
 have z0:w.cell? ⟨b,off+i*2,none⟩=some (.string ⟨(q i).1.toArray⟩):=by rw [<- add_plain];exact x0
 have z1:w.cell? ⟨b,off+i*2+1,none⟩=some (V1 i):=by rw [Nat.add_assoc,<- add_plain];exact x1
 refine ⟨b,off,V1 i,rfl,World.block_lt_of_cell? w _ z0,?_,z1,?_,y2⟩
 ·rw [z0];simp
 simpa using y1
theorem entry_argE {H:Type} {enc:TypeId × Value->H} {r:Reach} {b0:Nat} {d:DataW H} {ps:List MemPlace} (Fp:Value.okWide prog w r b0 39 v)
  (h:DataW.Trod enc prog w 0 (fun _=>true) true 39 v d ps):∃ (dn:Bs) (A:List Atr) (a:Option Addr) (c:Nat),v=.agg #[.string ⟨dn.toArray⟩,.slice a A.length c]/\zak w (.slice a A.length c) A/\A.length<=maxLen:=by
 obtain ⟨v0,v1,y0,y1,n,rfl,_,_,g0,g1⟩:=Joins.open_agg2 underlying39 Kr zkI Fp h
 obtain ⟨s0,e0,_⟩:=DataW.trod_string underlying9 g0
 obtain ⟨a,c,A,rfl,hA,hl⟩:=zkJ g1
 injection e0 with e0
 subst e0
 exact ⟨s0.data.toList,A,a,c,by simp,hA,hl⟩
end Go.Proofs.YtijglbolppkefaaGreatDoor

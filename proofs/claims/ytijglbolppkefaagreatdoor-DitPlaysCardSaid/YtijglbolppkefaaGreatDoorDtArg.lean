/- Deeds that came in as arguments. -/
import Derived.Test.YtijglbolppkefaaGreatDoorArgsE
import Derived.Test.YtijglbolppkefaaGreatDoorDtPN
set_option linter.unusedVariables false
set_option linter.unusedSimpArgs false
set_option maxHeartbeats 25600000
set_option maxRecDepth 100000
namespace Go.Proofs.YtijglbolppkefaaGreatDoor
open Go.Proofs.Tryz
open Go Go.ChangeShapes Go.WideShapes Go.RowKit Go.Proofs.MemK Go.Deep Go.Proofs.BerK
variable {w : World}
abbrev Dd:=Int × Ent
def ziB (w:World) (v:Value) (D:List Dd):Prop :=
 ∃ a c,v=.slice a D.length c/\∀ i (hi:i<D.length),∃ g o av,a=some ⟨g,o,none⟩/\g<w.heap.size/\w.cell? ⟨g,o+i*3,none⟩=some (.int .i64 D[i].1)/\w.cell? ⟨g,o+i*3+1,none⟩=some (.string ⟨D[i].2.1.toArray⟩)/\w.cell? ⟨g,o+i*3+2,none⟩=some av/\zak w av D[i].2.2
theorem ztD:prog.cellsOf 41 = 3:=by kernel_rfl
theorem ztE:prog.cellsOf 3 = 1:=by kernel_rfl
theorem ztF:prog.cellsOf 37 = 1:=by kernel_rfl
theorem ztG {H:Type} {enc:TypeId × Value->H} {fuel:Nat} {v0 v1 v2:Value} {x:DataW H × List MemPlace}
  (h:DataW.trod enc prog w 0 (fun _=>true) true fuel 41 [v0,v1,v2]=some x):∃ (k:Int) (dn:Bs) (a:Option Addr) (c:Nat) (A:List Atr),v0=.int .i64 k/\v1=.string ⟨dn.toArray⟩/\v2=.slice a A.length c/\zak w (.slice a A.length c) A:=by
 obtain ⟨y0,y1,n,_,_,g0,g1⟩:=trod_struct2 underlying41 h
 simp [ztE,zkI] at g0 g1
 obtain ⟨z0,z1,m,_,_,k0,k1⟩:=trod_struct2 underlying39 g1
 simp [zf1,ztF] at k0 k1
 obtain ⟨s0,e0,_⟩:=DataW.trod_int underlying3 g0
 obtain ⟨s1,e1,_⟩:=DataW.trod_string underlying9 k0
 obtain ⟨a,c,A,rfl,hA,hl⟩:=zkJ k1
 injection e0 with e0
 injection e1 with e1
 subst e0 e1
 exact ⟨s0,s1.data.toList,a,c,A,rfl,by simp,rfl,hA⟩
theorem deeds_arg {H:Type} {enc:TypeId × Value->H} {a0:Option Addr} {len cap:Nat} {d:DataW H} {ps:List MemPlace}
  (h:DataW.Trod enc prog w 0 (fun _=>true) true 22 (.slice a0 len cap) d ps):∃ L:List Dd,L.length=len/\ziB w (.slice a0 len cap) L/\cap<=maxLen:=by
 obtain ⟨fuel,hf⟩:=h
 rcases open_slice underlying22 hf with h0 | ⟨a,len',cap',m,n,D,Pl,bQ,hb,hl,hm,ct,_,hx⟩
 ·have h0:=h0.1
  simp [Value.cells] at h0
  obtain ⟨rfl,rfl,rfl⟩:=h0
  exact ⟨[],rfl,⟨none,0,rfl,fun i hi=>by simp at hi⟩,by decide⟩
 simp [Value.cells] at bQ
 obtain ⟨rfl,rfl,rfl⟩:=bQ
 simp only [if_true] at ct
 subst ct
 obtain ⟨q,hq⟩:=choose_lt (α:=Dd × Value) (n:=m) (p:=fun i q=>w.cells? 0 (a.add (i*3)) 3=some [.int .i64 q.1.1,.string ⟨q.1.2.1.toArray⟩,q.2]/\zak w q.2 q.1.2.2) (fun i hi=>by
  obtain ⟨cs',h1,h2⟩:=hx i hi
  rw [ztD] at h1
  obtain ⟨_,aF,bH⟩:=World.cells?_some h1
  match cs',aF,h1,h2 with
  | [v0,v1,v2],_,h1,h2 =>
   obtain ⟨k,dn,a,c,A,rfl,rfl,rfl,hA⟩:=ztG h2
   exact ⟨((k,dn,A),_),h1,hA⟩)
 have aF:((List.range len).map fun i=>(q i).1).length=len:=by simp
 refine ⟨(List.range len).map fun i=>(q i).1,aF,⟨some a,m,by rw [aF],fun i hi=>?_⟩,by omega⟩
 rw [aF] at hi
 obtain ⟨_,_,bH⟩:=World.cells?_some (hq i Om).1
 obtain ⟨_,_,uf⟩:=World.cells?_some (hq 0 Om).1
 obtain ⟨b,off,spot⟩:=a
 have jw:spot=none:=by
  have:=uf 0 Om
  simpa [Addr.add] using World.cell?_spot this
 subst jw
 have z:∀ j,j<3->w.cell? ⟨b,off+i*3+j,none⟩=([Value.int .i64 (q i).1.1,.string ⟨(q i).1.2.1.toArray⟩,(q i).2] : List Value)[j]? := by
  intro j hj
  have:=bH j hj
  rw [add_add,add_plain] at this
  rw [Nat.add_assoc,this]
 have z0:=z 0 Om
 refine ⟨b,off,(q i).2,rfl,World.block_lt_of_cell? w _ (show w.cell? ⟨b,off+i*3,none⟩=some (.int .i64 (q i).1.1) from z0),?_,?_,?_,?_⟩
 ·rw [show off+i*3=off+i*3+0 by omega,z0];simp
 ·rw [z 1 Om];simp
 ·rw [z 2 Om];simp
 simpa using (hq i Om).2
end Go.Proofs.YtijglbolppkefaaGreatDoor

/- The row that the code's clean. -/
import Derived.Test.YtijglbolppkefaaGreatDoorMLayw
import Derived.Test.YtijglbolppkefaaGreatDoorMPlEF
import Derived.Laws.IdiomCopy
set_option linter.unusedVariables false
set_option linter.unusedSimpArgs false
set_option maxHeartbeats 25600000
set_option maxRecDepth 100000
namespace Go.Proofs.YtijglbolppkefaaGreatDoor
open Go.Proofs.Tryz
open Go Go.RowKit Go.Proofs.BerK Go.Proofs.MemK Go.Proofs.UtfK
open Go.Sort hiding Below
open Go.Proofs.BerK
variable {B : Nat}
theorem znf (a b:Bs):(Lib.compareBytes a b<0) ↔ a<b:=by
 induction a generalizing b with
 | nil=>cases b with
  | nil=>simp [Lib.compareBytes]
  | cons y b=>simp [Lib.compareBytes]
 | cons x a ih=>cases b with
  | nil=>simp [Lib.compareBytes]
  | cons y b =>
   rw [List.cons_lt_cons_iff,Lib.compareBytes]
   by_cases h1:x<y
   ·rw [if_pos h1];simp [h1]
   rw [if_neg h1]
   by_cases h2:y<x
   ·rw [if_pos h2]
    have h3:x≠y:=fun e=>by subst e;exact h1 h2
    simp [h1,h3]
   rw [if_neg h2,ih]
   have h3:x=y:=UInt8.le_antisymm (UInt8.not_lt.1 h2) (UInt8.not_lt.1 h1)
   simp [h1,h3]
abbrev SoT:Type:=Atr × (Option Addr × Nat × Nat)
def zcU (x:SoT):List Value:=[.string ⟨x.1.1.toArray⟩,.slice x.2.1 x.2.2.1 x.2.2.2]
def enq (x:SoT):Bs × Value:=(x.1.1,.slice x.2.1 x.2.2.1 x.2.2.2)
def zdV (x y:SoT):Int:=Lib.compareBytes x.1.1 y.1.1
theorem zng {a b:Bs}:ltB a b=true ↔ a<b:=by unfold ltB;simp
theorem ltZ (x y:SoT):ltOf zdV x y=ltB x.1.1 y.1.1:=by
 unfold ltOf zdV ltB
 rw [Bool.eq_iff_iff,decide_eq_true_iff,decide_eq_true_iff]
 exact znf _ _
theorem zu1:SWO (ltOf zdV) where
 irrefl x:=by rw [ltZ];exact zgV _
 trans x y z h1 h2:=by rw [ltZ] at *;exact zgW h1 h2
 ntrans x y z h1 h2:=by
  rw [ltZ] at *
  unfold ltB at *
  rw [decide_eq_false_iff_not] at *
  exact List.not_lt.2 (List.le_trans (List.not_lt.1 h2) (List.not_lt.1 h1))
theorem znh (r:List SoT):flatK zcU 2 r.toArray=(zm (r.map enq)).toArray:=by
 apply Array.ext_getElem?
 intro t
 by_cases ht:t<r.length*2
 ·have h1:t<(flatK zcU 2 r.toArray).size:=by rw [size_flatK];simpa using ht
  have aj:t/2<r.length:=by omega
  have h2:=get_flatK zcU 2 r.toArray t (by simpa using ht)
  rw [getElem!_pos (flatK zcU 2 r.toArray) t h1] at h2
  rw [Array.getElem?_eq_getElem h1,h2,List.getElem?_toArray]
  have e:(r.toArray)[t/2]! = r[t/2]:=by
   rw [getElem!_pos r.toArray (t/2) (by simpa using aj)];simp
  rw [e]
  obtain ⟨a1,a2⟩:=zca (r.map enq) (t/2) (by simpa using aj)
  rw [List.getElem_map] at a1 a2
  rcases (show t%2=0\/t%2=1 by omega) with h | h
  ·rw [show t/2*2=t by omega] at a1
   rw [a1,h];rfl
  rw [show t/2*2+1=t by omega] at a2
  rw [a2,h];rfl
 rw [Array.getElem?_eq_none (by rw [size_flatK];simpa using ht),List.getElem?_toArray,List.getElem?_eq_none (by rw [zev];simp;omega)]
theorem zu2 (F c:Array Value):(putCells id 0 F c).size=c.size:=by unfold putCells;simp
theorem zu3 (F c:Array Value) (h:F.size<=c.size):(putCells id 0 F c).toList.take F.size=F.toList:=by
 apply List.ext_getElem?
 intro t
 rw [List.getElem?_take]
 by_cases ht:t<F.size
 ·rw [if_pos ht,Array.getElem?_toList,Array.getElem?_toList]
  unfold putCells
  rw [Array.getElem?_mapIdx,Array.getElem?_eq_getElem (by omega:t<c.size),Option.map_some,if_pos ⟨Nat.zero_le _,by omega⟩,Array.getElem?_eq_getElem ht]
  simp only [id,Nat.sub_zero]
  rw [getElem!_pos F t ht]
 rw [if_neg ht,Array.getElem?_toList,Array.getElem?_eq_none Om]
theorem zu4 {w:World} {g n cap:Nat} {xs:List Value} {D:List SoT} (hr:w.ownsRow B 74 2 (.slice (some ⟨g,0,none⟩) n cap) n xs) (hD:D.length=n) (m:Nat) (os:Array Obj) :
  (sortWorldK zcU 2 w g 0 m D.toArray os).ownsRow B 74 2 (.slice (some ⟨g,0,none⟩) n cap) n (zm (D.map enq))/\Chg (fun k=>k=g) w (sortWorldK zcU 2 w g 0 m D.toArray os):=by
 have aF:(zm (D.map enq)).length=n*2:=by rw [zev,List.length_map,hD]
 rcases hr.2 with ⟨h,_⟩ | ⟨g',cap',cur,h,hB,hg,f9,gS,bQ,_⟩
 ·cases h
 simp only [Value.slice.injEq,Option.some.injEq,Addr.mk.injEq,and_true,true_and] at h
 obtain ⟨rfl,rfl⟩:=h
 have bZ:g<w.heap.size:=(Array.getElem?_eq_some_iff.1 hg).1
 have jJ:∀ j,j<w.heap.size->(sortWorldK zcU 2 w g 0 m D.toArray os).heap[j]? = (putRow id (Go.Sort.ahead w m) g 0 (zm (D.map enq)).toArray).heap[j]? := by
  intro j hj
  unfold sortWorldK putRowK
  rw [heap_grow_old _ _ (by simpa using hj),znh]
 have eH:(putRow id (Go.Sort.ahead w m) g 0 (zm (D.map enq)).toArray).heap[g]?=some (.cells (putCells id 0 (zm (D.map enq)).toArray cur) 74 (0,0)):=by
  unfold putRow mapBlock
  simp [Array.getElem?_modify,hg,onCells]
 have eC:∀ j,j≠g->(putRow id (Go.Sort.ahead w m) g 0 (zm (D.map enq)).toArray).heap[j]? = w.heap[j]? := by
  intro j hj
  have:(Go.Sort.ahead w m).heap[j]? = w.heap[j]? := rfl
  rw [<- this]
  unfold putRow mapBlock
  simp [Array.getElem?_modify,Ne.symm hj]
 refine ⟨⟨aF,.inr ⟨g,cap,_,rfl,hB,(jJ g bZ).trans eH,f9,gS,by rw [zu2,bQ],?_⟩⟩,⟨rfl,rfl,rfl,?_,fun j hj aH=>(jJ j hj).trans (eC j aH)⟩⟩
 ·have:=zu3 (zm (D.map enq)).toArray cur (by rw [List.size_toArray,aF,bQ];exact Nat.mul_le_mul_right _ f9)
  rw [List.size_toArray,aF] at this
  exact this
 unfold sortWorldK putRowK
 simp
theorem zu5 (x y:SoT) (W:World):Calls prog 109 #[.agg #[.string ⟨x.1.1.toArray⟩,.slice x.2.1 x.2.2.1 x.2.2.2],.agg #[.string ⟨y.1.1.toArray⟩,.slice y.2.1 y.2.2.1 y.2.2.2]] W (fun e w'=>e=.returned (.int .i64 (zdV x y))/\∃ q os',w'=grow (W.drewN q) os'):=by
 have cK:=fun W'=>Any.strings_Compare Tryz.strCmp ⟨x.1.1.toArray⟩ ⟨y.1.1.toArray⟩ W'
 change ∀ W',Calls prog 62 #[.string ⟨x.1.1.toArray⟩,.string ⟨y.1.1.toArray⟩] W' (fun e w'=>e=.returned (.int .i64 (zdV x y))/\w'=W') at cK
 obtain ⟨⟨xn,xv⟩,xa,xl,xc⟩:=x
 obtain ⟨⟨yn,yv⟩,ya,yl,yc⟩:=y
 generalize zdV ((xn,xv),xa,xl,xc) ((yn,yv),ya,yl,yc)=r at cK ⊢
 have HC:=Hy cK
 clear cK
 go_enter func109,ntmps109
 go_wp2_with (go_at_call 62;refine (HC.o _).mono ?_;rintro e w' ⟨rfl,rfl⟩)
 go_ret
 exact ⟨rfl,0,_,by rw [alloc_eq_grow,alloc_eq_grow,grow_grow];rfl⟩
def zu6 (w0:World) (B:Nat) (L:List Atr) (ov:Value) (en:Ending) (w':World):Prop :=
 en=.returned (.tuple #[])/\∃ EF L',L'.Perm L/\L'.Pairwise (fun p q=>¬ q.1<p.1)/\zad w' EF L'/\w'.ownsRow (B+1) 74 2 ov L.length (zm EF)/\Below B w0 w'
def comp:Value->Option Addr × Nat × Nat
 | .slice a n c=>(a,n,c)
 | _=>(none,0,0)
theorem zu7 {w0:World} {N:List (Bs)} {L:List Atr} {ov:Value} {Lq:List (Bs × Value)} (w:World) (h:zbu w0 B N L ov Lq w) (hl:L.length<=1000000) :
  Calls prog 108 #[ov,.func (.func 109) #[] #[]] w (zu6 w0 B L ov):=by
 obtain ⟨aJ,hr,jN,hb,hs⟩:=h
 rcases hr.2 with ⟨rfl,h0⟩ | ⟨g,cap,cur,rfl,wD,wX,_⟩
 ·have cK:=AnyF.slices_SortFunc_none Tryz.sortAtr none 0 (.func (.func 109) #[] #[]) w
  change Calls prog 108 _ _ _ at cK
  refine cK.mono ?_
  rintro en w' ⟨rfl,rfl⟩
  have e:L=[]:=List.eq_nil_of_length_eq_zero h0
  subst e
  exact ⟨rfl,Lq,[],List.Perm.refl _,List.Pairwise.nil,zyP jN,hr,hb⟩
 have hql:=jN.1
 have bZ:g<w.heap.size:=(Array.getElem?_eq_some_iff.1 wX).1
 obtain ⟨Z,hZ⟩:∃ Z:List SoT,List.zipWith (fun p q=>(p,comp q.2)) L Lq=Z:=⟨_,rfl⟩
 have hZl:Z.length=L.length:=by rw [<- hZ,List.length_zipWith];omega
 have Ib:∀ i (h1:i<Z.length) (h2:i<L.length) (h3:i<Lq.length),Z[i]=(L[i],comp Lq[i].2):=by
  intro i h1 h2 h3
  subst hZ
  rw [List.getElem_zipWith]
 have l6:∀ i (h2:i<L.length) (h3:i<Lq.length),∃ a n c,Lq[i].2=.slice a n c:=fun i h2 h3=>by
  obtain ⟨a,c,e⟩:=zh (jN.2.1 i h3 h2).2
  exact ⟨a,_,c,e⟩
 have Me:Z.map enq=Lq:=by
  refine List.ext_getElem (by rw [List.length_map];omega) fun i h1 h2=>?_
  rw [List.length_map] at h1
  rw [List.getElem_map,Ib i h1 Om h2]
  obtain ⟨a,n,c,e⟩:=l6 i Om h2
  have e1:=(jN.2.1 i h2 Om).1
  refine Prod.ext ?_ ?_
  ·exact e1.symm
  show Value.slice (comp Lq[i].2).1 (comp Lq[i].2).2.1 (comp Lq[i].2).2.2=Lq[i].2
  rw [e];rfl
 have wm:Z.map (·.1)=L:=by
  refine List.ext_getElem (by rw [List.length_map];omega) fun i h1 h2=>?_
  rw [List.length_map] at h1
  rw [List.getElem_map,Ib i h1 h2 Om]
 have hZp:∀ x∈Z,w.ownsRow (B+1) 9 1 (enq x).2 x.1.2.length (sc x.1.2):=by
  intro x hx
  obtain ⟨i,hi,rfl⟩:=List.mem_iff_getElem.1 hx
  have h2:i<L.length:=by omega
  have h3:i<Lq.length:=by omega
  have e:=Ib i hi h2 h3
  have ho:=(jN.2.1 i h3 h2).2
  have e2:(enq Z[i]).2=Lq[i].2:=by
   have:=congrArg (fun l=>l[i]?) Me
   simp only [List.getElem?_map,List.getElem?_eq_getElem hi,List.getElem?_eq_getElem h3,Option.map_some,Option.some.injEq] at this
   rw [this]
  rw [e2,e]
  exact ho
 have eg:∀ args w,(callFunc 109 args).run prog w=.ok (.enter 109 args) w:=enters_of func109 Kr rfl
 have hH:HoldsK zcU 2 w g 0 Z.toArray:=by
  intro j hj
  rw [znh,Me] at hj ⊢
  have uE:j<(zm Lq).length:=by simpa using hj
  have iG:j<L.length*2:=by rw [zev] at uE;omega
  refine ⟨?_,?_⟩
  ·rw [Nat.zero_add]
   refine (hr.cellAt j iG).trans ?_
   rw [getElem!_pos _ j hj,List.getElem?_eq_getElem uE]
   simp
  rw [Nat.zero_add];exact hr.frozenAt j
 have cK:=AnyQ.slices_SortFunc Tryz.sortAtr 2 Tryz.isAgg74 Tryz.sizeOf74 zcU (fun _=>rfl) (fun x v hv=>by simp [zcU] at hv;rcases hv with rfl | rfl <;> rfl) zdV zu1 109 #[] g 0 cap Z.toArray w eg (fun _ _ _ _ x y=>zu5 x y _) hH bZ (by rw [List.size_toArray];omega)
 have aW:Z.toArray.size=L.length:=by rw [List.size_toArray];exact hZl
 rw [aW] at cK
 change Calls prog 108 _ _ _ at cK
 refine cK.mono ?_
 rintro en w' ⟨rfl,d',m,os,⟨uF,_,wZ⟩,xd,rfl⟩
 obtain ⟨D,rfl⟩:∃ D:List SoT,d'=D.toArray:=⟨d'.toList,by simp⟩
 have EG:D.length=L.length:=by rw [List.size_toArray] at uF;omega
 have sf:D.Perm Z:=by
  have e1:(D.toArray.extract 0 L.length).toList=D:=by simp [List.take_of_length_le (by omega:D.length<=L.length)]
  have e2:(Z.toArray.extract 0 L.length).toList=Z:=by simp [List.take_of_length_le (by omega:Z.length<=L.length)]
  rw [e1,e2] at wZ
  exact wZ
 obtain ⟨f1,f2⟩:=zu4 hr EG m os
 refine ⟨rfl,D.map enq,D.map (·.1),?_,?_,⟨by simp,fun i h1 h2=>?_⟩,f1,hb.trans (f2.toBelow Om (fun k hk e=>by have e:k=g:=e;omega))⟩
 ·have:=sf.map (·.1)
  rw [wm] at this
  exact this
 ·rw [List.pairwise_map,List.pairwise_iff_getElem]
  intro i j hi hj oA aj
  have h:=xd i j (Nat.zero_le _) oA Om
  rw [getElem!_pos D.toArray i (by simpa using hi),getElem!_pos D.toArray j (by simpa using hj),ltZ] at h
  simp only [List.getElem_toArray] at h
  rw [zng.2 aj] at h
  cases h
 rw [List.length_map] at h1 h2
 rw [List.getElem_map,List.getElem_map]
 have hx:=hZp D[i] (sf.mem_iff.1 (List.getElem_mem h1))
 exact ⟨rfl,B+1,zz hx f2 (fun k hk e=>by
  have e:k=g:=e
  subst e
  exact zeR hr hx De k rfl hk)⟩
end Go.Proofs.YtijglbolppkefaaGreatDoor
namespace Go.Proofs.YtijglbolppkefaaGreatDoor
open Go.Proofs.Tryz
open Go Go.RowKit Go.Proofs.BerK Go.Proofs.MemK Go.Proofs.UtfK
variable {w : World} {B c e g n s : Nat} {L : List Atr} {Lq : List (Bs × Value)} {xs : List Value}
def zu8 (L:List Atr) (w:World) (en:Ending) (w':World):Prop:=∃ v Lq,en=.returned v/\zad w' Lq L/\w'.ownsRow w.heap.size 74 2 v L.length (zm Lq)/\Below w.heap.size w w'
def zbt (A:List Atr) (i:Nat):List Atr:=(gcL A).take i++(gaL A).drop i
theorem zu9 (A:List Atr):zbt A 0=gaL A:=by simp [zbt]
theorem zva (A:List Atr) (i:Nat) (hi:i<=(gaL A).length):(zbt A i).length=(gaL A).length:=by
 unfold zbt gcL
 simp
 omega
theorem zvb (A:List Atr):zbt A (gaL A).length=gcL A:=by
 unfold zbt gcL
 rw [List.drop_length,List.append_nil,List.take_of_length_le Sm]
theorem zvc (A:List Atr) (i:Nat) (hi:i<(gaL A).length) (h:i<(zbt A i).length):(zbt A i)[i]=(gaL A)[i]:=by
 have e:(zbt A i)[i]?=some (gaL A)[i]:=by
  have h1:(List.take i (gcL A)).length=i:=by rw [List.length_take];unfold gcL;simp;omega
  unfold zbt
  rw [List.getElem?_append_right Om,h1,Nat.sub_self,List.getElem?_drop,Nat.add_zero,List.getElem?_eq_getElem hi]
 rw [List.getElem?_eq_getElem h] at e
 injection e
theorem zvd (A:List Atr) (i:Nat) (hi:i<(gaL A).length):zbt A (i+1)=(zbt A i).set i ((gaL A)[i].1,onL (gaL A)[i].2):=by
 have hg:i<(gcL A).length:=by unfold gcL;simpa using hi
 unfold zbt
 rw [List.take_succ_eq_append_getElem hg,List.set_append]
 have h1:(List.take i (gcL A)).length=i:=by rw [List.length_take];omega
 rw [h1,if_neg Om,Nat.sub_self,List.drop_eq_getElem_cons hi,List.set_cons_zero,List.append_assoc]
 congr 1
 have e:(gcL A)[i]=((gaL A)[i].1,onL (gaL A)[i].2):=List.getElem_map _
 rw [e,List.singleton_append]
theorem zve {A:List Atr} {i:Nat} (hi:i<(gaL A).length):(gaL A)[i].2≠[]:=by
 have hm:(nmN A)[i]'(by rw [<- zdE];exact hi)∈nmN A:=List.getElem_mem _
 have e:(gaL A)[i].2=vaL A ((nmN A)[i]'(by rw [<- zdE];exact hi)):=by simp [gaL]
 rw [e]
 exact zeQ.1 hm
theorem zni {w0:World} {N:List (Bs)} (h:zbu w0 B N L (.slice (some ⟨g,0,none⟩) n c) Lq w) (j:Nat) (hj:j<Lq.length) (v:Value) (hv:Lq[j].2=v) :
  ∀ w',Chg (fun k=>some k=v.ownBlock) w.drew w'->w'.cell? ⟨g,j*2+1,none⟩=some v/\w'.frozen? ⟨g,j*2+1,none⟩=false:=by
 intro w' h2
 subst hv
 exact (zjZ (zjX h) j hj h2).2
theorem zvf (A:List Atr) (v:Value) (w:World) (h:zak w v A) (hf:zdB A):Calls prog 58 #[v] w (zu8 (clA A) w):=by
 obtain ⟨_,a,c,rfl,ae⟩:=h
 have HM:=Hy ae
 have HF:=Hy hf
 have xe:=Hy (fun k (hk:k<A.length) (he:A[k].2=[])=>An (zo2 k hk he) (zyE k hk he))
 have Mf:=Hy (fun k (hk:k<A.length) (he:A[k].2≠[]) j (hj:ixL (nmN (A.take k)) (za A[k].1)=some j)=>An (zjU k hk he hj) (zyF k hk he hj))
 have EE:=Hy (fun k (hk:k<A.length) (he:A[k].2≠[]) (hj:ixL (nmN (A.take k)) (za A[k].1)=none)=>An (zo4 k hk he hj) (zyG k hk he hj))
 have Ic:=Hy (fun k=>zyM (zo5 (m:=1000) (k:=1000) hf k))
 have HT:=Hy (show A.take A.length=A from List.take_length)
 obtain ⟨n,hn⟩:=Ex A.length
 have HL:=Hy hn
 have fv:n<=1000:=by rw [<- hn];exact hf.1
 rw [hn] at HT ⊢
 have ct:=@run_makeMap prog
 clear ae hf hn
 go_enter func58,ntmps58
 go_wp2
 clear ct
 go_loopw [4,15] (fun o v wr=>∃ (k:Nat) (Lq:List (Bs × Value)),k<=n/\v=.int .i64 (k:Nat)/\zbu w w.heap.size (nmN (A.take k)) (gaL (A.take k)) o Lq wr) (fun _ v _=>n - (intOf v).toNat)
 case atStart =>
  refine ⟨0,[],by omega,rfl,?_⟩
  rw [List.take_zero,zyC,zyD]
  exact ⟨.inr ⟨_,_,rfl,World.ownsMap_made _ _ _ _,zqM⟩,World.ownsRow_nil _ _ _ _,zyN _ _,(Br _).alloc Lr _,by simp⟩
 case round =>
  obtain ⟨k,Lq,hk,rfl,fP⟩:=hrel
  by_cases aj:k<n
  ·have bh:(k:Int)<(n:Int):=by omega
   have aO:k<A.length:=by rw [HL.o];exact aj
   obtain ⟨g,o,vl,rfl,hg,aU,aP,dt,sw⟩:=HM.o k aO
   have aq:=fP.2.2.2.1
   have e0:=(aq.cell (p:=⟨g,_,none⟩) hg).trans aU
   have e1:=(aq.cell (p:=⟨g,_,none⟩) hg).trans aP
   have dD:=zec dt sw
   have EH:=HF.o.2 _ (List.getElem_mem aO)
   have EI:=xe.o k aO
   have EJ:=Mf.o k aO
   have EK:=EE.o k aO
   have Id:=Ic.o k
   obtain ⟨va,vc,rfl,_⟩:=dt
   obtain ⟨m,ct⟩:=Ex (A[k].1)
   obtain ⟨V,hV⟩:=Ex (A[k].2)
   obtain ⟨N,hN⟩:=Ex (nmN (A.take k))
   obtain ⟨L,hL⟩:=Ex (gaL (A.take k))
   obtain ⟨LM,iL⟩:=Ex (za m)
   rw [ct,hV] at EH
   rw [ct] at e0
   rw [hV] at e1 dD
   rw [hV,hN,hL] at EI
   rw [ct,hV,hN,hL,iL] at EJ EK
   rw [hL] at Id
   rw [hN,hL] at fP
   have uG:=zdE (A.take k)
   rw [hN,hL] at uG
   have cV:=Hy (fun w=>show Calls prog 72 #[.string ⟨m.toArray⟩] w (zG (za m) w) from zco ⟨m.toArray⟩ w)
   have cT:LM.length<=140737488355328:=by rw [<- iL,zdC];omega
   rw [iL] at cV
   obtain ⟨nl,jg⟩:=Ex V.length
   rw [jg] at e1 dD EH
   have hnl1:=EH.2.1
   obtain ⟨W2,aL⟩:=Ex (wr.alloc (.cells #[.string ⟨m.toArray⟩,.slice va nl vc] 74))
   have ak:=Nb aL
   have y2:=Nw aL
   have fp:=Hy aL
   obtain ⟨i0,i1⟩:=zf y2
   have H:=Hy (An fP (An ak (An y2 (An dD Id))))
   clear fP ak y2 dD Id aq aU aP sw EH ct hN hL iL hg
   by_cases h0:nl=0
   ·subst h0
    have HK:=Hy (EI (List.eq_nil_of_length_eq_zero jg))
    clear EI EJ EK jg hV aL
    go_wp2
    try rw [fp.o]
    refine ⟨⟨k+1,Lq,by omega,by go_num,?_⟩,by simp [intOf];omega⟩
    rw [HK.o.1,HK.o.2]
    exact zhf H.o.1 H.o.2.1
   have Ie:V≠[]:=fun e=>h0 (by rw [<- jg,e];rfl)
   have hz:((nl:Int)==0)=false:=by rw [beq_eq_false_iff_ne];omega
   have If:=Hy (EJ Ie)
   have Ig:=Hy (EK Ie)
   have l7:=Hy jg
   clear EI EJ EK jg hV Ie aL
   go_wp2_with fail
   rw [fp.o]
   refine (cV.o _).mono ?_
   rintro e w5 ⟨rfl,ai⟩
   clear i0 i1 e0 e1
   have az:Below wr.heap.size wr w5:=H.o.2.1.trans (ai.mono H.o.2.1.size)
   have y5:=Ob H.o.2.2.1 ai
   have dZ:=zhf H.o.1 az
   have uH:=zdt H.o.2.2.2.1 dZ.2.2.2.1
   have aV:=zfW dZ.1 LM cT
   obtain ⟨j0,j1⟩:=zf y5
   cases hq:ixL N LM with
   | some j =>
    rw [hq] at aV
    unfold plV at aV
    obtain ⟨qf,Ch,p5,rd⟩:=If.o j hq
    have sx:j<Lq.length:=by rw [zfM dZ];exact Ch
    obtain ⟨og,oc,rfl,uI,uJ⟩:=zfL dZ.2.1 Om
    have Ci:=dZ.2.2.1.2.1 j sx Ch
    have Mg:=(H.o.2.2.2.2.2 _ (List.getElem_mem Ch)).2.1
    have p1:=(zjY dZ j sx).2
    have o0:=zni dZ j sx
    have uK:=dZ.2.2.2.2
    obtain ⟨X,hX⟩:=Ex (L[j].2)
    obtain ⟨vj,xf⟩:=Ex (Lq[j].2)
    have Mh:Lq[j].1=LM:=Ci.1.trans p5
    have ab:=Ci.2
    rw [hX,xf] at ab
    rw [xf] at p1
    rw [hX] at Mg rd
    have o5:=o0 vj xf
    clear o0
    obtain ⟨ja,jc,rfl⟩:=zh ab
    obtain ⟨xl,gZ⟩:=Ex X.length
    rw [gZ] at ab p1 xf o5 Mg
    obtain ⟨ln,dV⟩:=Ex L.length
    rw [dV] at dZ Ch ⊢
    have Ih:(j:Int)<(ln:Int):=by omega
    have H8:=Hy (An dZ (An ab (An uH (An (show w.heap.size+1<=w5.drew.heap.size from uK) o5))))
    have H9:=Hy (An qf (An rd (An sx (An Mh (An xf (An gZ dV))))))
    clear dZ ab uH uK o5 qf rd Mh xf gZ dV hX Ci p5 y5 ai az Ch hq uI uJ
    go_wp2
    go_region_law (refine zjW rfl (.tmp 50) (.tmp 52) 47 9 rfl (w.heap.size+1) 1 16 (.string ByteArray.empty) Tryz.scinfo9 underlying47 rfl (by decide) (.slice ja xl jc) xl (sc X) rfl (zaZ H8.o.2.1 rfl) (.slice va nl vc) nl (sc V) rfl H8.o.2.2.1 (by omega) (zcD _) (by unfold maxLen;omega) (by omega) H8.o.2.2.2.1 ?_;intro v' w' h1 h2 h3;obtain ⟨na,nc,rfl⟩:=zh h1;have h4:=H8.o.2.2.2.2 w' h2;have q1:=h4.1;have q2:=h4.2)
    all_goals
     have HV:=Hy (An h1 (An h2 h3))
     clear h1 h2 h3 h4 q1 q2
     go_wp2
     have HG:=Hy (zj0 (zjX H8.o.1) j H9.o.2.2.1 LM H9.o.2.2.2.1 (X++V) (.slice na (xl+nl) nc) (by rw [List.length_append,H9.o.2.2.2.2.2.1,l7.o,zfz];exact HV.o.1) (by rw [H9.o.2.2.2.2.1];exact HV.o.2.1) (by rw [H9.o.2.2.2.2.1];exact HV.o.2.2))
     refine ⟨⟨k+1,Lq.set j (LM,Value.slice na (xl+nl) nc),by omega,by go_num,?_⟩,by simp [intOf];omega⟩
     rw [H9.o.1,H9.o.2.1]
     exact HG.o
   | none =>
    rw [hq] at aV
    unfold plV at aV
    obtain ⟨qf,rd⟩:=Ig.o hq
    obtain ⟨D,o6,hD⟩:∃ D,w5.ownsMap prog 9 (plainElem (H:=Unit) prog 3) w.heap.size N.length D/\ze3 D N:=by
     rcases dZ.1 with ⟨h,_⟩ | ⟨b',D,h,hm,hD⟩
     ·cases h
     injection h with h;injection h with h;subst h;exact ⟨D,hm,hD⟩
    have uL:N.length=L.length:=uG.symm
    have ig:=H.o.2.2.2.2.1
    obtain ⟨ra,rc,rfl⟩:=zh dZ.2.1
    obtain ⟨ln,dV⟩:=Ex L.length
    rw [dV] at uL ig dZ ⊢
    have dY:=zce LM cT
    have Mi:(Lit.int .i64 (ln:Nat)).wf=true:=WalkArith.wf_i64 Om
    have Cj:some wr.heap.size≠some w.heap.size:=fun e=>by injection e with e;have:=H.o.1.2.2.2.2;omega
    have jH:some wr.heap.size≠(Value.slice ra ln rc).ownBlock:=fun e=>by have:=(H.o.1.2.1.lt wr.heap.size (by rw [dV];exact e.symm)).2;omega
    have Ck:=uL
    have uK:=dZ.2.2.2.2
    have H8:=Hy (An dZ (An o6 (An hD (An qf (An rd (An dV (An y5 (An Ck (An hq (An Cj jH))))))))))
    clear dZ uH hD qf rd dV y5 ai az hq Cj jH uG Ck
    go_wp2_with (first
     | (at_mapUpdate
        refine wpList_mapUpdate_own _ rfl _ _ _ 94 rfl 9 3 z8 underlying94 _ w.heap.size N.length _ rfl o6 Mx _ _ _ rfl rfl dY _ [] (plainElem_int underlying3 Mi) ?_
        intro w1 bS bN
        have H5:=Hy (An (zyT H8.o.1 bN (N':=N++[LM]) (.inr ⟨_,_,rfl,by rw [List.length_append];exact bS,by have:=zkx (H8.o.2.1.tidy z8) H8.o.2.2.1 H8.o.2.2.2.2.2.2.2.2.1;rw [H8.o.2.2.2.2.2.2.2.1] at this;exact this⟩)) (zV H8.o.2.2.2.2.2.2.1 (Chg.ofGrown bN) H8.o.2.2.2.2.2.2.2.2.2.1))
        have Ii:=H5.o.1.2.2.2.2
        clear bS bN aV dY Mi o6 j0 j1)
     | (at_builtin;refine zaM rfl (.tmp 39) (.tmp 42) 37 74 rfl (w.heap.size+1) 2 40 (.agg #[.string ByteArray.empty,.slice none 0 0]) Tryz.sninfo74 underlying37 rfl De [.string ⟨LM.toArray⟩,.slice none 0 0] rfl ?c0 (.slice ra ln rc) ln (zm Lq) rfl _ rfl rfl ?c4 ?c1 ?c2 Ii ?_)
     | go_in)
    case c0=>intro u hu;simp at hu;rcases hu with rfl | rfl <;> rfl
    case c4=>have:=H5.o.1.2.1;rw [H8.o.2.2.2.2.2.1] at this;exact this
    case c1=>unfold maxLen;omega
    case c2=>omega
    intro v2 w2 g1 g2 g3
    obtain ⟨og,oc,rfl,_,_⟩:=zfL g1 Om
    have l8:=zyU (t:=LM) H5.o.1 (by rw [H8.o.2.2.2.2.2.1];exact g1) g2
    have y2:=zV H5.o.2 g2 H8.o.2.2.2.2.2.2.2.2.2.2
    have Ij:Lq.length=ln:=by rw [zfM H5.o.1];exact H8.o.2.2.2.2.2.1
    have sx:ln<(Lq++[(LM,Value.slice none 0 0)]).length:=by rw [List.length_append,Ij];simp
    have EL:(Lq++[(LM,Value.slice none 0 0)])[ln]=(LM,Value.slice none 0 0):=by simp [<- Ij]
    have p1:=(zjY l8 ln sx).2
    have o0:=zni l8 ln sx (.slice none 0 0) (by rw [EL])
    rw [EL] at p1
    obtain ⟨j0,j1⟩:=zf y2
    have Cm:=zdt H.o.2.2.2.1 l8.2.2.2.1
    have eZ:=l8.2.2.2.2
    have Ih:(ln:Int)<(ln:Int)+1:=by omega
    have Cn:=Hy (An l8 (An (World.ownsRow_nil w2 (w.heap.size+1) 9 1) (An Cm (An (show w.heap.size+1<=w2.drew.heap.size from eZ) o0))))
    have H9:=Hy (An sx EL)
    clear l8 y2 g1 g2 g3 o0 Cm eZ EL Ij
    go_wp2
    go_region_law (refine zjW rfl (.tmp 50) (.tmp 52) 47 9 rfl (w.heap.size+1) 1 16 (.string ByteArray.empty) Tryz.scinfo9 underlying47 rfl (by decide) (.slice none 0 0) 0 (sc []) rfl (zaZ Cn.o.2.1 rfl) (.slice va nl vc) nl (sc V) rfl Cn.o.2.2.1 (by omega) (zcD _) (by unfold maxLen;omega) (by omega) Cn.o.2.2.2.1 ?_;intro v' w' h1 h2 h3;obtain ⟨na,nc,rfl⟩:=zh h1;have h4:=Cn.o.2.2.2.2 w' h2;have q1:=h4.1;have q2:=h4.2)
    all_goals
     have HV:=Hy (An h1 (An h2 h3))
     clear h1 h2 h3 h4 q1 q2
     go_wp2
     have HG:=Hy (zj0 (zjX Cn.o.1) ln H9.o.1 LM (by rw [H9.o.2]) V (.slice na (0+nl) nc) (by have:=HV.o.1;rw [l7.o];rw [Nat.zero_add] at this ⊢;exact this) (by rw [H9.o.2];exact HV.o.2.1) (by rw [H9.o.2];exact HV.o.2.2))
     refine ⟨⟨k+1,(Lq++[(LM,Value.slice none 0 0)]).set ln (LM,Value.slice na (0+nl) nc),by omega,by go_num,?_⟩,by simp [intOf];omega⟩
     rw [H8.o.2.2.2.1,H8.o.2.2.2.2.1]
     have e:(L++[(LM,[])]).set ln (LM,V)=L++[(LM,V)]:=by rw [<- H8.o.2.2.2.2.2.1];simp
     rw [<- e]
     first | exact HG.o | (have Mj:=HG.o;simp only [Nat.zero_add] at Mj ⊢;exact Mj)
  obtain rfl:k=n:=by omega
  rw [HT.o] at fP
  have re:=Ic.o k
  rw [HT.o] at re
  have HFg:=Hy re
  obtain ⟨ra,rc,rfl⟩:=zh fP.2.1
  obtain ⟨ln,dV⟩:=Ex ((gaL A).length)
  have iW:=Hy dV
  have Ik:ln<=1000:=by rw [<- dV];exact re.1
  rw [dV] at fP ⊢
  have H0:=Hy fP
  clear fP re dV xe Mf EE Ic HM
  go_wp2
  go_loopw [59] (fun v wr=>∃ (i:Nat) (Lq:List (Bs × Value)),i<=ln/\v=.int .i64 (i:Nat)/\zbu w w.heap.size (nmN A) (zbt A i) (.slice ra ln rc) Lq wr) (fun v _=>ln - (intOf v).toNat)
  case atStart=>exact ⟨0,Lq,by omega,rfl,by rw [zu9];exact H0.o⟩
  case round =>
   clear H0
   obtain ⟨i,oV,hi,rfl,cf⟩:=hrel
   have fb:(zbt A i).length=ln:=by rw [<- iW.o];exact zva A i (by rw [iW.o];exact hi)
   by_cases fo:i<ln
   ·have cW:(i:Int)<(ln:Int):=by omega
    have Co:i<(gaL A).length:=by rw [iW.o];exact fo
    have cJ:i<(zbt A i).length:=by omega
    have EM:i<oV.length:=by rw [zfM cf];exact cJ
    obtain ⟨og,oc,eo,uI,uJ⟩:=zfL cf.2.1 Om
    injection eo with eo1 eo2 eo3
    subst eo1 eo3
    clear eo2
    obtain ⟨c0,c1⟩:=zjY cf i EM
    have aA:=(cf.2.2.1.2.1 i EM cJ)
    have bm:=zvd A i Co
    rw [zvc A i Co cJ] at aA
    obtain ⟨t,ht⟩:=Ex ((gaL A)[i].1)
    obtain ⟨Y,hY⟩:=Ex ((gaL A)[i].2)
    have Mk:Y≠[]:=by rw [<- hY];exact zve Co
    have Il:=(HFg.o.2 _ (List.getElem_mem Co)).2
    rw [ht,hY] at aA bm
    rw [hY] at Il
    obtain ⟨de,ab⟩:=aA
    rw [de] at c0
    obtain ⟨vY,EN⟩:=Ex (oV[i].2)
    rw [EN] at c1 ab
    obtain ⟨ya,yc,rfl⟩:=zh ab
    obtain ⟨W2,aL⟩:=Ex (wr.alloc (.cells #[.string ⟨t.toArray⟩,.slice ya Y.length yc] 74))
    have ak:=Nb aL
    have y2:=Nw aL
    have HO:=Hy (zoD Y _ W2 (zaL (zu ab ak)) Om (fun x hx=>by have:=Il.2 x hx;omega))
    have Im:0<(onL Y).length:=by
     rcases Nat.eq_zero_or_pos (onL Y).length with h | h
     ·exact absurd (zdw.1 (List.eq_nil_of_length_eq_zero h)) Mk
     exact h
    have fp:=Hy aL
    obtain ⟨i0,i1⟩:=zf y2
    rw [<- aL] at i0 i1
    obtain ⟨yl,o7⟩:=Ex Y.length
    rw [o7] at c1 HO fp i0 i1 EN
    obtain ⟨OY,Ml⟩:=Ex (onL Y)
    rw [Ml] at HO Im bm
    have H:=Hy (An cf (An ak (An bm (An de (An EN Im)))))
    clear cf ak y2 aL ab Il Mk bm de EN ht hY o7 Ml Im uI uJ cJ Co
    go_wp2_with fail
    rw [fp.o]
    refine HO.o.mono ?_
    rintro e w5 ⟨v5,rfl,p6,ai⟩
    clear c0 c1 i0 i1
    have az:Below wr.heap.size wr w5:=H.o.2.1.trans (ai.mono H.o.2.1.size)
    have wY:=zhf H.o.1 az
    obtain ⟨_,q1,q2⟩:=zjZ wY i EM (Chg.refl _ w5)
    rw [H.o.2.2.2.2.1] at q1
    obtain ⟨Mm,oc5,rfl,h5B,h5l⟩:=zfL p6 H.o.2.2.2.2.2
    have Cp:=zaK (B':=w.heap.size+1) p6 (by have:=H.o.1.2.2.2.2;have:=H.o.2.1.size;omega)
    have H5:=Hy (zj0 H.o.1 i EM t H.o.2.2.2.1 OY _ Cp (Chg.ofBelow az) (.inr ⟨Mm,rfl,by have:=H.o.2.1.size;omega⟩))
    clear wY p6 ai az Cp h5B h5l
    go_wp2
    refine ⟨⟨i+1,oV.set i (t,Value.slice (some ⟨Mm,0,none⟩) OY.length oc5),by omega,by go_num,?_⟩,by simp [intOf];omega⟩
    rw [H.o.2.2.1]
    exact H5.o
   obtain rfl:i=ln:=by omega
   have xh:zbt A i=gcL A:=by rw [<- iW.o];exact zvb A
   have bZ:(gcL A).length=i:=by rw [<- xh];exact fb
   rw [xh] at cf
   have HSo:=Hy (zu7 wr cf Om)
   clear cf xh fb
   go_wp2_with fail
   refine HSo.o.mono ?_
   rintro en w9 ⟨rfl,EF,L',hp,hs,aS,hr,hb⟩
   have H:=Hy (An hp (An hs (An aS (An hr (An hb bZ)))))
   clear hp hs aS hr hb bZ
   go_wp2
   go_ret
   have e:=zyJ H.o.1 H.o.2.1
   subst e
   have e2:(clA A).length=i:=by rw [H.o.1.length_eq];exact H.o.2.2.2.2.2
   have hr:=H.o.2.2.2.1
   rw [H.o.2.2.2.2.2] at hr
   exact ⟨_,EF,rfl,H.o.2.2.1,by rw [e2];exact zaK hr (Nat.le_succ _),H.o.2.2.2.2.1⟩
theorem zvg {P:Program} (w:World) (t e ty:TypeId) (z:Value) (ht:P.underlying t=some (.slice e)) (hv:∀ w,(zeroValue e).run P w=.ok z w) (h1:∀ v∈(Builtin.zeroCells z.cells 0).toList,True) (b o n c m:Nat) (hn:0<n) (us:List Value) (hus:(Builtin.zeroCells z.cells n).toList=us) (qg:us.length=m) (uM:∀ v∈us,v.oneCell'=true)
  (hc:∀ j,j<m->(w.cell? ⟨b,o+j,none⟩).isSome=true) (hf:∀ j,j<m->w.frozen? ⟨b,o+j,none⟩=false) :
  (Builtin.clear_ #[t] ty #[.slice (some ⟨b,o,none⟩) n c]).run P w=.ok (.tuple #[]) (w.setCells b o us):=by
 have bm:=run_storeCells_cells (P:=P) b o us 0 w (by rw [qg];simpa using hc) (by rw [qg];simpa using hf) uM
 simp only [Nat.add_zero] at bm
 obtain ⟨m,rfl⟩:∃ m,n=m+1:=⟨n - 1,by omega⟩
 simp [Builtin.clear_,run_underlying ht,hv,hus,bm]
theorem zvh {m:Nat} (us:List Value):∀ (w:World) (o:Nat),w.ownsRow B e s (.slice (some ⟨g,0,none⟩) m c) n xs->n*s<=o->(w.setCells g o us).ownsRow B e s (.slice (some ⟨g,0,none⟩) m c) n xs/\Chg (fun k=>k=g) w (w.setCells g o us):=by
 induction us with
 | nil=>intro w o h _;exact ⟨h,Chg.refl _ _⟩
 | cons u us ih =>
  intro w o h ho
  have h1:=zd5 h o u
  rw [List.set_eq_of_length_le (by have:=h.1;omega)] at h1
  obtain ⟨h2,h3⟩:=ih (w.setCell ⟨g,o,none⟩ u) (o+1) h1 Om
  have hc:Chg (fun k=>k=g) w (w.setCell ⟨g,o,none⟩ u):=(Chg.refl (fun k=>k=g) w).setCell (p:=⟨g,o,none⟩) (fun _=>rfl) u
  exact ⟨h2,hc.trans h3 Fi⟩
theorem zvi (h:w.ownsRow B e s (.slice (some ⟨g,0,none⟩) n c) n xs) (i:Nat) (hi:i<=n):w.ownsRow B e s (.slice (some ⟨g,0,none⟩) i c) i (xs.take (i*s)):=by
 have hm:=Nat.mul_le_mul_right s hi
 refine ⟨by rw [List.length_take,h.1];omega,?_⟩
 rcases h.2 with ⟨h',_⟩ | ⟨g',cap',cur,h',hB,hg,f9,gS,bQ,ht⟩
 ·cases h'
 simp only [Value.slice.injEq,Option.some.injEq,Addr.mk.injEq,and_true,true_and] at h'
 obtain ⟨rfl,rfl⟩:=h'
 refine .inr ⟨g,c,cur,rfl,hB,hg,by omega,gS,bQ,?_⟩
 rw [<- ht,List.take_take]
 congr 1
 omega
theorem zvj (R:List (Bs × Value)) (i:Nat) (hi:i<R.length) (q:Bs × Value):((zm R).set (i*2) (.string ⟨q.1.toArray⟩)).set (i*2+1) q.2=zm (R.set i q):=by
 induction R generalizing i with
 | nil=>simp at hi
 | cons c R ih =>
  have e:∀ c (L:List (Bs × Value)),zm (c :: L)=.string ⟨c.1.toArray⟩ :: c.2 :: zm L:=fun _ _=>rfl
  cases i with
  | zero=>simp only [List.set_cons_zero,e];rfl
  | succ i =>
   have jd:i<R.length:=by simpa using hi
   rw [List.set_cons_succ,e,e,show (i+1)*2+1=i*2+1+1+1 by omega,show (i+1)*2=i*2+1+1 by omega,List.set_cons_succ,List.set_cons_succ,List.set_cons_succ,List.set_cons_succ,ih i jd]
theorem zvk {w':World} {ov:Value} (h:zad w Lq L) (hr:w.ownsRow B 74 2 ov n xs) (hc:Chg (fun k=>some k=ov.ownBlock) w w'):zad w' Lq L :=
 ⟨h.1,fun i h1 h2=>⟨(h.2 i h1 h2).1,by
  obtain ⟨_,B2,hB⟩:=h.2 i h1 h2
  exact ⟨B2,zz hB hc (fun k hk e=>zeR hr hB De k e.symm hk)⟩⟩⟩
end Go.Proofs.YtijglbolppkefaaGreatDoor

/- A region that draws its order. -/
import Derived.Test.YtijglbolppkefaaGreatDoorGenA
import Derived.Deep.RegionHeld3
import Derived.Test.YtijglbolppkefaaGreatDoorMMoM
import Derived.Test.YtijglbolppkefaaGreatDoorRuK
import Derived.Test.YtijglbolppkefaaGreatDoorGenB
import Derived.Test.YtijglbolppkefaaGreatDoorMEnAB
import Derived.Test.YtijglbolppkefaaGreatDoorMPlEF
import Derived.Test.YtijglbolppkefaaGreatDoorEnUW
import Derived.Test.YtijglbolppkefaaGreatDoorEnJN
import Derived.Test.YtijglbolppkefaaGreatDoorSnAL
import Derived.Test.YtijglbolppkefaaGreatDoorMRuB
import Derived.Test.YtijglbolppkefaaGreatDoorEnQT
import Derived.Test.YtijglbolppkefaaGreatDoorDtK
import Derived.Test.YtijglbolppkefaaGreatDoorMLayw
import Derived.Test.YtijglbolppkefaaGreatDoorSnNT
import Derived.Test.YtijglbolppkefaaGreatDoorDtAC
import Derived.Test.YtijglbolppkefaaGreatDoorMDqJ
import Derived.Test.YtijglbolppkefaaGreatDoorMScQ
import Derived.Test.YtijglbolppkefaaGreatDoorDtPN
import Derived.Shelf.Spec.SlicesGrow
import Derived.Ground.Names8Prog
import Derived.Test.YtijglbolppkefaaGreatDoorChecked
import Derived.Test.YtijglbolppkefaaGreatDoorMDrCE
set_option linter.unusedVariables false
set_option linter.unusedSimpArgs false
set_option maxHeartbeats 25600000
set_option maxRecDepth 100000
namespace Go.Proofs.RegK
open Go Go.RowKit Go.Proofs.BerK Go.Proofs.MemK
structure zc5 (ops:Array Oper) (A:Nat->Bool) (G:Nat->Value->World->Prop) (a0:Act) (R:(Nat->Bool)->World->Prop) (listed:Array Bool) (a:Act) (w:World):Prop where
 sz:listed.size=ops.size
 out:∀ j,A j=false->listed.getD j false=false
 defers:a.defers=a0.defers
 tsz:a.tmps.size=a0.tmps.size
 below:R (fun j=>listed.getD j false) w
 same:∀ s,(∀ j o,ops[j]?=some o->listed.getD j false=true->o.dst≠some s)->a.tmps.getD s undef=a0.tmps.getD s undef
 good:∀ j o d,ops[j]?=some o->listed.getD j false=true->o.dst=some d->G j (a.tmps.getD d undef) w
def unl:Nat->Array Bool->Nat
 | 0,_=>0
 | n+1,l=>unl n l+if l.getD n false=true then 0 else 1
theorem zfI {l:Array Bool} {i:Nat} (h:i<l.size) (d:Bool):(l.setIfInBounds i true).getD i d=true:=by simp [Array.getD,h]
theorem zoO {l:Array Bool} {i:Nat}:∀ n,n<=i->unl n (l.setIfInBounds i true)=unl n l
 | 0,_=>rfl
 | n+1,h=>by
  unfold unl
  rw [zoO n Om,getD_set_ne false Om]
theorem zjR {l:Array Bool} {i:Nat} (hs:i<l.size) (h:l.getD i false=false):∀ n,i<n->unl n (l.setIfInBounds i true)+1=unl n l
 | 0,hi=>by omega
 | n+1,hi=>by
  unfold unl
  by_cases e:i=n
  ·subst e
   rw [zoO i Lr,zfI hs,h]
   simp
  have:=zjR hs h n Om
  rw [getD_set_ne false e]
  omega
theorem zoP {l:Array Bool}:∀ n,(∀ j,j<n->l.getD j false=false)->unl n l=n
 | 0,_=>rfl
 | n+1,h=>by
  unfold unl
  rw [zoP n (fun j hj=>h j Om),h n Om];simp
theorem zoQ {l:Array Bool} {j:Nat} (h:l.getD j false=false):∀ n,j<n->0<unl n l
 | 0,hj=>by omega
 | n+1,hj=>by
  unfold unl
  by_cases e:j=n
  ·subst e;rw [h];simp
  have:=zoQ h n Om;omega
theorem zx4 {l:Array Bool} {j:Nat} (h:l.getD j false=false):∃ i,i<=j/\l.getD i false=false/\∀ k,k<i->l.getD k false=true:=by
 induction j using Nat.strongRecOn with
 | _ j ih =>
  by_cases hk:∃ k,k<j/\l.getD k false=false
  ·obtain ⟨k,hk,h2⟩:=hk
   obtain ⟨i,h3,h4,h5⟩:=ih k hk h2
   exact ⟨i,by omega,h4,h5⟩
  refine ⟨j,Nat.le_refl _,h,fun k Mz=>?_⟩
  cases e:l.getD k false with
  | true=>rfl
  | false=>exact absurd ⟨k,Mz,e⟩ hk
theorem zoR {l:Array Bool} {j:Nat} (hj:j<l.size) (d:Bool):l.getD j d=l.getD j false:=by simp [Array.getD,hj]
theorem zoS {t:Array Value} {d:Nat} (h:d<t.size) (v:Value):(t.setIfInBounds d v).getD d undef=v:=by simp [Array.getD,h]
theorem zjS {t:Array Value} {d s:Nat} (h:d≠s) (v:Value):(t.setIfInBounds d v).getD s undef=t.getD s undef:=by
 simp [Array.getElem?_setIfInBounds_ne h]
section
variable {P : Program} {md : Region.Mode} {ops : Array Oper} {Q : Exit -> Act -> World -> Prop} {A : Nat -> Bool} {G : Nat -> Value -> World -> Prop} {a0 : Act} {w0 : World} {R : (Nat -> Bool) -> World -> Prop} {T : World -> World -> Prop}
theorem zoT (fK:∀ j l v w w',R l w->G j v w->T w w'->G j v w')
  (mo:∀ i j oi oj d,ops[i]?=some oi->ops[j]?=some oj->A i=true->A j=true->oi.dst=some d->oj.dst=some d->i=j)
  {i:Nat} {o:Oper} (ho:ops[i]?=some o) (hA:A i=true) (cz:∀ d,o.dst=some d->d<a0.tmps.size) {listed:Array Bool} {a:Act} {w w':World} {v:Value}
  (h:zc5 ops A G a0 R listed a w) (hi:i<ops.size) (hG:G i v w') (hb:T w w') (hR:R (fun j=>(listed.setIfInBounds i true).getD j false) w'):zc5 ops A G a0 R (listed.setIfInBounds i true) (a.put o.dst v) w':=by
 have jI:i<listed.size:=by rw [h.sz];exact hi
 have qO:∀ j,listed.getD j false=true->A j=true:=fun j hj=>by
  cases e:A j with
  | true=>rfl
  | false=>rw [h.out j e] at hj;cases hj
 refine ⟨by rw [Array.size_setIfInBounds];exact h.sz,fun j hj=>?_,?_,?_,hR,fun s hs=>?_,fun j oj d mq hj hd=>?_⟩
 ·have:i≠j:=fun e=>by rw [e,hj] at hA;cases hA
  rw [getD_set_ne false this];exact h.out j hj
 ·unfold Act.put;split <;> exact h.defers
 ·unfold Act.put;split
  ·show (a.tmps.setIfInBounds _ _).size=_
   rw [Array.size_setIfInBounds];exact h.tsz
  exact h.tsz
 ·have h1:a.tmps.getD s undef=a0.tmps.getD s undef:=h.same s (fun j oj mq hj=>hs j oj mq (getD_set_true hj))
  have h2:=hs i o ho (zfI jI false)
  unfold Act.put
  split
  ·rename_i d hd
   show (a.tmps.setIfInBounds d v).getD s undef=_
   rw [zjS (fun e=>h2 (by rw [hd,e]))];exact h1
  exact h1
 by_cases e:i=j
 ·subst e
  rw [ho] at mq
  injection mq with mq
  subst mq
  unfold Act.put
  rw [hd]
  show G i ((a.tmps.setIfInBounds d v).getD d undef) w'
  rw [zoS (by rw [h.tsz];exact cz d hd)];exact hG
 rw [getD_set_ne false e] at hj
 have h1:=fK j _ _ w w' h.below (h.good j oj d mq hj hd) hb
 unfold Act.put
 split
 ·rename_i d' qm
  show G j ((a.tmps.setIfInBounds d' v).getD d undef) w'
  rw [zjS (fun e2=>e (mo i j o oj d ho mq hA (qO j hj) (by rw [qm,e2]) hd))];exact h1
 exact h1
theorem zx6 (fr:Nat->Bool) (fK:∀ j l v w w',R l w->G j v w->T w w'->G j v w')
  (CK:∀ i o,ops[i]?=some o->∀ e∈o.after,Region.binds md e=true->e.on<i)
  (CL:∀ i o,ops[i]?=some o->A i=false->∀ j,j<ops.size->A j=true->fr j=false->∃ e∈o.after,Region.binds md e=true/\e.on=j)
  (mo:∀ i j oi oj d,ops[i]?=some oi->ops[j]?=some oj->A i=true->A j=true->oi.dst=some d->oj.dst=some d->i=j)
  (cz:∀ i o d,ops[i]?=some o->A i=true->o.dst=some d->d<a0.tmps.size)
  (oz:∀ i o,ops[i]?=some o->A i=true->∀ listed a w,zc5 ops A G a0 R listed a w->listed.getD i false=false->(∀ e∈o.after,Region.binds md e=true->listed.getD e.on false=true) ->
   Region.wanted o (yielded ops a.tmps)=true/\∀ K:Act->World->Prop,(∀ v w',G i v w'->T w w'->R (fun j=>(listed.setIfInBounds i true).getD j false) w'->K (a.put o.dst v) w')->Oper.wp P o a w K Q)
  (fI:∀ fuel listed a w,zc5 ops A G a0 R listed a w->(∀ j,j<ops.size->A j=true->fr j=false->listed.getD j false=true)->unl ops.size listed<=fuel->wpAnyH P md ops Q (fun _=>True) fuel listed a w) :
  ∀ fuel listed a w,zc5 ops A G a0 R listed a w->unl ops.size listed<=fuel->wpAnyH P md ops Q (fun _=>True) fuel listed a w:=by
 intro fuel
 induction fuel with
 | zero =>
  intro listed a w h hf
  refine fI 0 listed a w h (fun j hj _ _=>?_) hf
  cases e:listed.getD j false with
  | true=>rfl
  | false=>have:=zoQ e ops.size hj;omega
 | succ fuel ih =>
  intro listed a w h hf
  by_cases af:∀ j,j<ops.size->A j=true->fr j=false->listed.getD j false=true
  ·exact fI (fuel+1) listed a w h af hf
  have lU:∃ j,j<ops.size/\A j=true/\fr j=false/\listed.getD j false=false:=by
   apply Classical.byContradiction
   intro hn
   refine af (fun j hj hA xq=>?_)
   cases e:listed.getD j false with
   | true=>rfl
   | false=>exact absurd ⟨j,hj,hA,xq,e⟩ hn
  obtain ⟨j,hj,rp,IG,n9⟩:=lU
  refine ⟨fun hr=>?_,fun i hi=>?_⟩
  ·exfalso
   obtain ⟨i,h1,h2,h3⟩:=zx4 n9
   have kC:i<ops.size:=by omega
   have:i∈Region.ready md ops listed:=mem_ready.2 ⟨by rw [zoR (by rw [h.sz];exact kC)];exact h2,ops[i],by simp [kC],fun e he hb=>h3 _ (CK i _ (by simp [kC]) e he hb)⟩
   rw [hr] at this
   cases this
  obtain ⟨hl,o,ho,gH⟩:=mem_ready.1 hi
  have kC:i<ops.size:=(Array.getElem?_eq_some_iff.1 ho).1
  rw [zoR (by rw [h.sz];exact kC)] at hl
  cases xr:A i with
  | false =>
   obtain ⟨e,he,hb,e2⟩:=CL i o ho xr j hj rp IG
   have:=gH e he hb
   rw [e2,n9] at this
   cases this
  | true =>
   obtain ⟨hw,hK⟩:=oz i o ho xr listed a w h hl gH
   refine wpOp_step ho (fun K' BH=>?_)
   rw [if_pos hw]
   refine hK K' (fun v w' hG hb hR=>BH _ _ ⟨trivial,ih _ _ _ (zoT fK mo ho xr (fun d hd=>cz i o d ho xr hd) h kC hG hb hR) ?_⟩)
   have:=zjR (l:=listed) (i:=i) (by rw [h.sz];exact kC) hl ops.size kC
   omega
theorem zx8 (hR:R (fun _=>false) w0):zc5 ops A G a0 R (Array.replicate ops.size false) a0 w0:=by
 have hz:∀ j,(Array.replicate ops.size false).getD j false=false:=fun j=>by
  simp only [Array.getD_eq_getD_getElem?,Array.getElem?_replicate]
  split <;> rfl
 refine ⟨by simp,fun j _=>hz j,rfl,rfl,by rw [funext hz];exact hR,fun s _=>rfl,fun j o d _ hj=>?_⟩
 rw [hz] at hj;cases hj
theorem zx9:unl ops.size (Array.replicate ops.size false)=ops.size:=zoP _ (fun j _=>by
  simp only [Array.getD_eq_getD_getElem?,Array.getElem?_replicate]
  split <;> rfl)
theorem zya {listed:Array Bool} {a:Act} {w:World} (h:zc5 ops A G a0 R listed a w) (af:∀ j,j<ops.size->A j=true->listed.getD j false=true):listed=((List.range ops.size).map A).toArray:=by
 refine Array.ext (by rw [h.sz];simp) (fun j h1 h2=>?_)
 have hj:j<ops.size:=by rw [<- h.sz];exact h1
 rw [show (((List.range ops.size).map A).toArray[j]'h2)=A j by simp]
 have e:listed[j]=listed.getD j false:=by simp [Array.getD,h1]
 rw [e]
 cases hA:A j with
 | true=>exact af j hj hA
 | false=>exact h.out j hA
theorem zyb (t:Act):∀ (D:List Nat) (b:Act) (s:Nat),(∀ d∈D,d<b.tmps.size)->b.tmps.size=t.tmps.size->b.tmps.getD s undef=t.tmps.getD s undef\/s∈D ->
  (D.foldl (fun b d=>b.put (some d) (t.tmps.getD d undef)) b).tmps.getD s undef=t.tmps.getD s undef/\(D.foldl (fun b d=>b.put (some d) (t.tmps.getD d undef)) b).tmps.size=t.tmps.size/\(D.foldl (fun b d=>b.put (some d) (t.tmps.getD d undef)) b).defers=b.defers:=by
 intro D
 induction D with
 | nil =>
  intro b s _ hs h
  exact ⟨h.resolve_right Sm,hs,rfl⟩
 | cons d D ih =>
  intro b s hd hs h
  rw [List.foldl_cons]
  have hds:=hd d Sm
  have aW:(b.put (some d) (t.tmps.getD d undef)).tmps.size=b.tmps.size:=by simp [Act.put]
  refine ih (b.put (some d) (t.tmps.getD d undef)) s (fun x hx=>by rw [aW];exact hd x (List.mem_cons_of_mem _ hx)) (by rw [aW];exact hs) ?_
  by_cases e:d=s
  ·left
   subst e
   show (b.tmps.setIfInBounds d _).getD d undef=_
   rw [zoS hds]
  rcases h with h | h
  ·left
   show (b.tmps.setIfInBounds d _).getD s undef=_
   rw [zjS e];exact h
  right
  rcases List.mem_cons.1 h with h | h
  ·exact absurd h.symm e
  exact h
theorem zyc {listed:Array Bool} {a:Act} {w:World} (h:zc5 ops A G a0 R listed a w) (D:List Nat) (hD:∀ j o s,ops[j]?=some o->A j=true->o.dst=some s->s∈D) (hb:∀ d∈D,d<a0.tmps.size):a=D.foldl (fun b d=>b.put (some d) (a.tmps.getD d undef)) a0:=by
 have key:∀ s,a.tmps.getD s undef=a0.tmps.getD s undef\/s∈D:=fun s=>by
  by_cases hs:s∈D
  ·exact .inr hs
  left
  refine h.same s (fun j o ho hj hd=>hs (hD j o s ho ?_ hd))
  cases e:A j with
  | true=>rfl
  | false=>rw [h.out j e] at hj;cases hj
 have hp:=fun s=>zyb a D a0 s hb h.tsz.symm ((key s).imp Eq.symm id)
 obtain ⟨t,df⟩:=a
 have h2:=(hp 0).2
 generalize hq:D.foldl (fun b d=>b.put (some d) (({ tmps:=t,defers:=df }:Act).tmps.getD d undef)) a0=q at *
 obtain ⟨qt,qd⟩:=q
 have e1:qd=df:=h2.2.trans h.defers.symm
 have e2:t=qt:=by
  refine Array.ext h2.1.symm (fun s h3 h4=>?_)
  have:=(hp s).1
  simp only [Array.getD_eq_getD_getElem?,Array.getElem?_eq_getElem h3,Array.getElem?_eq_getElem h4,Option.getD_some] at this
  exact this.symm
 rw [e1,e2]
def zha (md:Region.Mode) (ops:Array Oper) (A fr:Nat->Bool) (n:Nat) (D:List Nat):Bool :=
 D.all (fun d=>decide (d<n)) && (List.range ops.size).all fun i=>match ops[i]? with
  | none=>true
  | some o=>(o.after.all fun e => !Region.binds md e || decide (e.on<i)) && (A i || (List.range ops.size).all fun j => !A j || fr j || o.after.any fun e=>Region.binds md e && e.on==j) &&
   (match o.dst with
    | none=>true
    | some d => !A i || (D.contains d && (List.range ops.size).all fun j => !A j || decide (i=j) || (match ops[j]? with | none=>true | some oj=>oj.dst != some d)))
theorem zyd {fr:Nat->Bool} {D:List Nat} {n:Nat} (h:zha md ops A fr n D=true):(∀ d∈D,d<n)/\∀ i o,ops[i]?=some o->(∀ e∈o.after,Region.binds md e=true->e.on<i)/\(A i=false->∀ j,j<ops.size->A j=true->fr j=false->∃ e∈o.after,Region.binds md e=true/\e.on=j) /\
  ∀ d,o.dst=some d->A i=true->d∈D/\∀ j oj,ops[j]?=some oj->A j=true->oj.dst=some d->i=j:=by
 unfold zha at h
 rw [Bool.and_eq_true,List.all_eq_true,List.all_eq_true] at h
 obtain ⟨h0,h1⟩:=h
 refine ⟨fun d hd=>by simpa using h0 d hd,fun i o ho=>?_⟩
 have kC:i<ops.size:=(Array.getElem?_eq_some_iff.1 ho).1
 have h2:=h1 i (List.mem_range.2 kC)
 rw [ho] at h2
 simp only [Bool.and_eq_true] at h2
 obtain ⟨⟨h3,h4⟩,h5⟩:=h2
 refine ⟨fun e he hb=>?_,fun hA j hj rp IG=>?_,fun d hd hA=>?_⟩
 ·have h6:=Array.all_eq_true'.1 h3 e he
  rw [hb] at h6
  simpa using h6
 ·rw [hA,Bool.false_or,List.all_eq_true] at h4
  have h6:=h4 j (List.mem_range.2 hj)
  rw [rp,IG,Bool.not_true,Bool.false_or,Bool.false_or] at h6
  obtain ⟨e,he,h7⟩:=Array.any_eq_true'.1 h6
  rw [Bool.and_eq_true] at h7
  exact ⟨e,he,h7.1,by simpa using h7.2⟩
 rw [hd] at h5
 simp only [hA,Bool.not_true,Bool.false_or,Bool.and_eq_true] at h5
 refine ⟨by simpa using h5.1,fun j oj mq rp IH=>?_⟩
 have h6:=List.all_eq_true.1 h5.2 j (List.mem_range.2 (Array.getElem?_eq_some_iff.1 mq).1)
 rw [mq,rp] at h6
 simpa [IH] using h6
theorem zye {listed:Array Bool} {a:Act} {w:World} (h:zc5 ops A G a0 R listed a w) (f:Nat) (hf:listed.getD f false=false) (af:∀ j,j<ops.size->A j=true->decide (j=f)=false->listed.getD j false=true):listed=(((List.range ops.size).map A).toArray).setIfInBounds f false:=by
 refine Array.ext (by rw [h.sz];simp) (fun j h1 h2=>?_)
 have hj:j<ops.size:=by rw [<- h.sz];exact h1
 have e:listed[j]=listed.getD j false:=by simp [Array.getD,h1]
 rw [e]
 by_cases II:j=f
 ·subst II
  rw [hf];simp
 rw [show ((((List.range ops.size).map A).toArray).setIfInBounds f false)[j]'h2=A j by
  simp only [List.setIfInBounds_toArray,List.getElem_toArray]
  rw [List.getElem_set_ne (fun e=>II e.symm)]
  simp]
 cases hA:A j with
 | true=>exact af j hj hA (by simpa using II)
 | false=>exact h.out j hA
theorem zd2 (R:(Nat->Bool)->World->Prop) (T:World->World->Prop) (hR0:R (fun _=>false) w0) (hTr:∀ w,T w w) (A:Nat->Bool) (f:Nat) (D:List Nat) (G:Nat->Value->World->Prop) (LIT:Array Bool) (r:Nat) (rq:((List.range ops.size).map A).toArray=LIT) (hr:unl ops.size LIT=r) (j9:f<ops.size->unl ops.size (LIT.setIfInBounds f false)=r+1) (EX:f<ops.size->A f=true)
  (u4:Region.noSelect ops=true) (sF:f<ops.size->Region.free md ops (LIT.setIfInBounds f false) f=true) (dD:f<ops.size->(Region.ready md ops (LIT.setIfInBounds f false)).contains f=true)
  (u5:zha md ops A (fun j=>decide (j=f)) a0.tmps.size D=true) (fK:∀ j l v w w',R l w->G j v w->T w w'->G j v w')
  (hQ:∀ c a d v w,Q (.panic c) (Act.put a d v) w->Q (.panic c) a w)
  (oz:∀ i (hi:i<ops.size),A i=true->∀ l a w,l i=false->R l w->(∀ s,D.contains s=false->a.tmps.getD s undef=a0.tmps.getD s undef) ->
   (∀ j d (hj:j<ops.size),(ops[i].after.any fun e=>Region.binds md e && e.on==j)=true->ops[j].dst=some d->G j (a.tmps.getD d undef) w) ->
   (∀ j,(ops[i].after.any fun e=>Region.binds md e && e.on==j)=true->l j=true) ->
   Region.wanted ops[i] (yielded ops a.tmps)=true/\∀ K:Act->World->Prop,(∀ v w',G i v w'->T w w'->R (fun j=>if i=j then true else l j) w'->K (a.put ops[i].dst v) w')->Oper.wp P ops[i] a w K Q)
  (IJ:∀ (hf:f<ops.size) a w,(∀ j d (hj:j<ops.size),(ops[f].after.any fun e=>Region.binds md e && e.on==j)=true->ops[j].dst=some d->G j (a.tmps.getD d undef) w)->∃ v,YieldsIf P ops (fun _=>True) ops[f] v a/\G f v w)
  (hfR:∀ l w,R l w->R (fun j=>if f=j then true else l j) w) (fI:∀ fuel a w,R (fun j=>decide (j<ops.size) && A j) w->a=D.foldl (fun b d=>b.put (some d) (a.tmps.getD d undef)) a0->(∀ j d (hj:j<ops.size),A j=true->ops[j].dst=some d->G j (a.tmps.getD d undef) w) ->
   wpAnyH P md ops Q (fun _=>True) (fuel+r) LIT a w) :
  wpAnyH P md ops Q (fun _=>True) ops.size (Array.replicate ops.size false) a0 w0:=by
 obtain ⟨hD,af⟩:=zyd u5
 have mo:∀ i j oi oj d,ops[i]?=some oi->ops[j]?=some oj->A i=true->A j=true->oi.dst=some d->oj.dst=some d->i=j:=fun i j oi oj d hi hj xr rp lR IH=>((af i oi hi).2.2 d lR xr).2 j oj hj rp IH
 have cz:∀ i o d,ops[i]?=some o->A i=true->o.dst=some d->d<a0.tmps.size:=fun i o d ho hA hd=>hD d ((af i o ho).2.2 d hd hA).1
 have db:∀ {listed a w},zc5 ops A G a0 R listed a w->(∀ j,j<ops.size->A j=true->listed.getD j false=true)->∀ fuel,unl ops.size listed<=fuel->wpAnyH P md ops Q (fun _=>True) fuel listed a w:=by
  intro listed a w h hl fuel hf
  have e:=zya h hl
  rw [e,rq] at hf ⊢
  rw [hr] at hf
  obtain ⟨f,rfl⟩:∃ f,fuel=f+r:=⟨fuel - r,by omega⟩
  refine fI f a w (by
   have hc:=h.below
   rw [show (fun j=>listed.getD j false)=fun j=>decide (j<ops.size) && A j from funext fun j=>?_] at hc
   ·exact hc
   by_cases h1:j<ops.size
   ·cases h2:A j with
    | true=>rw [hl j h1 h2];simp [h1]
    | false=>rw [h.out j h2];simp
   rw [show listed.getD j false=false by simp [Array.getD,h.sz,h1]]
   simp [h1]) (zyc h D (fun j o s ho hA hd=>((af j o ho).2.2 s hd hA).1) hD) (fun j d hj hA hd=>h.good j ops[j] d (by simp [hj]) (hl j hj hA) hd)
 refine zx6 (A:=A) (G:=G) (a0:=a0) (R:=R) (T:=T) (fun j=>decide (j=f)) fK (fun i o ho=>(af i o ho).1) (fun i o ho=>(af i o ho).2.1) mo cz ?_ ?_ _ _ _ _ (zx8 hR0) (by rw [zx9];exact Nat.le_refl _)
 ·intro i o ho hA listed a w h k8 gH
  have kC:i<ops.size:=(Array.getElem?_eq_some_iff.1 ho).1
  obtain rfl:ops[i]=o:=(Array.getElem?_eq_some_iff.1 ho).2
  have ak:(fun j=>(listed.setIfInBounds i true).getD j false)=fun j=>if i=j then true else listed.getD j false:=funext fun j=>by
   by_cases e:i=j
   ·subst e;rw [if_pos rfl];exact zfI (by rw [h.sz];exact kC) false
   rw [if_neg e,getD_set_ne false e]
  rw [ak]
  refine oz i kC hA _ a w k8 h.below (fun s hs=>h.same s (fun j oj mq hj hd=>?_)) (fun j d hj cj hd=>?_) (fun j cj=>?_)
  ·have rp:A j=true:=by
    cases e:A j with
    | true=>rfl
    | false=>rw [h.out j e] at hj;cases hj
   have:=((af j oj mq).2.2 s hd rp).1
   have h2:D.contains s=true:=by simpa using this
   rw [hs] at h2;cases h2
  ·obtain ⟨e,he,h7⟩:=Array.any_eq_true'.1 cj
   rw [Bool.and_eq_true] at h7
   have h8:e.on=j:=by simpa using h7.2
   exact h.good j ops[j] d (by simp [hj]) (by rw [<- h8];exact gH e he h7.1) hd
  obtain ⟨e,he,h7⟩:=Array.any_eq_true'.1 cj
  rw [Bool.and_eq_true] at h7
  have h8:e.on=j:=by simpa using h7.2
  rw [<- h8];exact gH e he h7.1
 intro fuel listed a w h hl hf
 by_cases fD:f<ops.size
 ·cases fw:listed.getD f false with
  | true =>
   refine db h (fun j hj hA=>?_) fuel hf
   by_cases e:j=f
   ·rw [e];exact fw
   exact hl j hj hA (by simpa using e)
  | false =>
   have e:=zye h f fw hl
   rw [rq] at e
   have xq:=hf
   rw [e,j9 fD] at xq
   obtain ⟨fu,rfl⟩:∃ fu,fuel=fu+1:=⟨fuel - 1,by omega⟩
   have pw:f∈Region.ready md ops listed:=by
    have:=dD fD
    rw [<- e] at this
    simpa using this
   have u6:=(mem_ready.1 pw).2
   obtain ⟨o,ho,gH⟩:=u6
   obtain rfl:ops[f]=o:=(Array.getElem?_eq_some_iff.1 ho).2
   obtain ⟨v,hy,hG⟩:=IJ fD a w (fun j d hj cj hd=>by
    obtain ⟨e,he,h7⟩:=Array.any_eq_true'.1 cj
    rw [Bool.and_eq_true] at h7
    have h8:e.on=j:=by simpa using h7.2
    exact h.good j ops[j] d (by simp [hj]) (by rw [<- h8];exact gH e he h7.1) hd)
   refine wpAnyH_first ho (Region.noSelect_spec u4) (fun c a w=>hQ c a _ _ w) fu listed a w (Region.free_spec ho (by rw [e];exact sF fD)) pw hy trivial ?_
   have bm:=zoT fK mo ho (EX fD) (fun d hd=>cz f _ d ho (EX fD) hd) h fD hG (hTr _) (by
    have h2:=hfR _ _ h.below
    rw [show (fun j=>(listed.setIfInBounds f true).getD j false)=fun j=>if f=j then true else listed.getD j false from funext fun j=>?_]
    ·exact h2
    by_cases e:f=j
    ·subst e;rw [if_pos rfl];exact zfI (by rw [h.sz];exact fD) false
    rw [if_neg e,getD_set_ne false e])
   refine db bm (fun j hj hA=>?_) fu ?_
   ·by_cases e2:j=f
    ·rw [e2];exact zfI (by rw [h.sz];exact fD) false
    rw [getD_set_ne false (fun h=>e2 h.symm)];exact hl j hj hA (by simpa using e2)
   have:=zjR (l:=listed) (i:=f) (by rw [h.sz];exact fD) fw ops.size fD
   omega
 exact db h (fun j hj hA=>hl j hj hA So) fuel hf
theorem zfJ (A:Nat->Bool) (f:Nat) (D:List Nat) (G:Nat->Value->World->Prop) (LIT:Array Bool) (r:Nat) (rq:((List.range ops.size).map A).toArray=LIT) (hr:unl ops.size LIT=r) (j9:f<ops.size->unl ops.size (LIT.setIfInBounds f false)=r+1) (EX:f<ops.size->A f=true)
  (u4:Region.noSelect ops=true) (sF:f<ops.size->Region.free md ops (LIT.setIfInBounds f false) f=true) (dD:f<ops.size->(Region.ready md ops (LIT.setIfInBounds f false)).contains f=true)
  (u5:zha md ops A (fun j=>decide (j=f)) a0.tmps.size D=true) (fK:∀ j v w w',G j v w->Below w0.heap.size w0 w->Below w.heap.size w w'->G j v w')
  (hQ:∀ c a d v w,Q (.panic c) (Act.put a d v) w->Q (.panic c) a w)
  (oz:∀ i (hi:i<ops.size),A i=true->∀ a w,Below w0.heap.size w0 w->(∀ s,D.contains s=false->a.tmps.getD s undef=a0.tmps.getD s undef) ->
   (∀ j d (hj:j<ops.size),(ops[i].after.any fun e=>Region.binds md e && e.on==j)=true->ops[j].dst=some d->G j (a.tmps.getD d undef) w) ->
   Region.wanted ops[i] (yielded ops a.tmps)=true/\∀ K:Act->World->Prop,(∀ v w',G i v w'->Below w.heap.size w w'->K (a.put ops[i].dst v) w')->Oper.wp P ops[i] a w K Q)
  (IJ:∀ (hf:f<ops.size) a w,(∀ j d (hj:j<ops.size),(ops[f].after.any fun e=>Region.binds md e && e.on==j)=true->ops[j].dst=some d->G j (a.tmps.getD d undef) w)->∃ v,YieldsIf P ops (fun _=>True) ops[f] v a/\G f v w)
  (fI:∀ fuel a w,Below w0.heap.size w0 w->a=D.foldl (fun b d=>b.put (some d) (a.tmps.getD d undef)) a0->(∀ j d (hj:j<ops.size),A j=true->ops[j].dst=some d->G j (a.tmps.getD d undef) w) ->
   wpAnyH P md ops Q (fun _=>True) (fuel+r) LIT a w) :
  wpAnyH P md ops Q (fun _=>True) ops.size (Array.replicate ops.size false) a0 w0:=by
 refine zd2 (fun _ w=>Below w0.heap.size w0 w) (fun w w'=>Below w.heap.size w w') (Br _) (fun _=>Br _) A f D G LIT r rq hr j9 EX u4 sF dD u5 (fun j _ v w w' h1 h2 h3=>fK j v w w' h2 h1 h3) hQ (fun i hi hA _ a w _ hb hs hd _=>?_) IJ Fi (fun fuel a w h=>fI fuel a w h)
 obtain ⟨h1,h2⟩:=oz i hi hA a w hb hs hd
 exact ⟨h1,fun K hK=>h2 K (fun v w' hG ak=>hK v w' hG ak (hb.trans (ak.mono hb.size)))⟩
end
end Go.Proofs.RegK
namespace Go.Proofs.YtijglbolppkefaaGreatDoor
open Go.Proofs.Tryz
open Go Go.RowKit Go.Proofs.BerK Go.Proofs.MemK Go.Proofs.UtfK Go.Proofs.RegK
variable {B : Nat} {w : World}
theorem zcH {p:Prop} (h:p:=by
 refine ⟨rfl,fun K hK=>?_⟩
 simp only [Sg] at hK ⊢
 go_simp
 exact hK _ _ rfl (Br _)):p:=h
def gBt (B:Nat) (v:Value) (w:World):Prop:=∃ b,v=.pointer (some ⟨b,0,none⟩)/\w.heap[b]?=some (.cells #[.string ⟨#[]⟩,.int .i64 0,.bool false] 69 (0,0))/\B<=b
theorem zyf {v:Value} {w':World} (h:gBt B v w) (hb:Below w.heap.size w w'):gBt B v w':=by
 obtain ⟨b,h1,h2,h3⟩:=h;exact ⟨b,h1,Ob h2 hb,h3⟩
theorem zyg {g:Nat} {a b c:Value} {t:TypeId} (h:w.heap[g]?=some (.cells #[a,b,c] t (0,0))) (x y z:Value):(((w.setCell ⟨g,0,none⟩ x).setCell ⟨g,1,none⟩ y).setCell ⟨g,2,none⟩ z).heap[g]?=some (.cells #[x,y,z] t (0,0)):=by simpa using zH (zH (zH h 0 x) 1 y) 2 z
theorem zyh {a:World} (h:Below B a w) {g:Nat} (hg:B<=g) (x y z:Value):Below B a (((w.setCell ⟨g,0,none⟩ x).setCell ⟨g,1,none⟩ y).setCell ⟨g,2,none⟩ z):=((h.setCell (p:=⟨g,0,none⟩) hg x).setCell (p:=⟨g,1,none⟩) hg y).setCell (p:=⟨g,2,none⟩) hg z
def mtG (sv lv pv uv:Value) (i:Int) (pa:Value) (pt:Bs) (ty:Value) (ok:Bool) (B:Nat):Nat->Value->World->Prop
 | 0=>fun v _=>v=sv
 | 1=>fun v _=>v=lv
 | 2=>fun v _=>v=pv
 | 3=>fun v _=>v=uv
 | 4=>fun v _=>v=.int .i64 i
 | 5=>fun v _=>v=pa
 | 6=>fun v _=>v=pa
 | 7=>fun v _=>v=.string ⟨pt.toArray⟩
 | 8=>fun v _=>v=.tuple #[ty,.bool ok]
 | 9=>fun v _=>v=.tuple #[ty,.bool ok]
 | 10=>fun v _=>v=ty
 | 11=>fun v _=>v=.bool ok
 | 12=>gBt B
 | _=>fun _ _=>True
theorem zyi (sv lv pv uv:Value) (i:Int) (pa:Value) (pt:Bs) (ty:Value) (ok:Bool) (B:Nat):∀ (j:Nat) (v:Value) (w w':World),mtG sv lv pv uv i pa pt ty ok B j v w->Below w.heap.size w w'->mtG sv lv pv uv i pa pt ty ok B j v w'
 | 0,v,w,w',h,hb=>h
 | 1,v,w,w',h,hb=>h
 | 2,v,w,w',h,hb=>h
 | 3,v,w,w',h,hb=>h
 | 4,v,w,w',h,hb=>h
 | 5,v,w,w',h,hb=>h
 | 6,v,w,w',h,hb=>h
 | 7,v,w,w',h,hb=>h
 | 8,v,w,w',h,hb=>h
 | 9,v,w,w',h,hb=>h
 | 10,v,w,w',h,hb=>h
 | 11,v,w,w',h,hb=>h
 | 12,v,w,w',h,hb=>zyf h hb
 | _+13,_,_,_,_,_=>trivial
theorem zyj (f:Av->Bool) (r:List Av) (i:Nat) (hi:i<r.length):(r.take (i+1)).all f=((r.take i).all f && f r[i]):=by
 rw [List.take_add_one,List.getElem?_eq_getElem hi,List.all_append];simp
theorem zyk (A:List Atr) (pt pv:Bs):∃ (tn:Bs) (tr:Int) (ts ok:Bool),TyV (scT plT pt)=.tuple #[.agg #[.string ⟨tn.toArray⟩,.int .i64 tr,.bool ts],.bool ok]/\(ok=false->nmP A (pt,pv)=false)/\(ok=true->(geL A pt).any (zaa tr pv)=nmP A (pt,pv)):=by
 cases h:scT plT pt with
 | none=>exact ⟨[],0,false,false,rfl,fun _=>by unfold nmP;rw [h],fun h=>by cases h⟩
 | some t=>exact ⟨t.1,t.2.1,t.2.2,true,rfl,fun h=>(by cases h),fun _=>by unfold nmP;rw [h]⟩
theorem zoU (A:List Atr) (dn:Bs) (tv cv av:Value) (w:World) (hT:zL w tv plT) (hA:zaB w av A) (hf:za3 300 300 A) :
  Calls prog 50 #[.agg #[tv,cv],.agg #[.string ⟨dn.toArray⟩,av]] w (BB (zcT A dn) w):=by
 obtain ⟨W1,aB⟩:=Ex ((w.alloc (.cells #[tv,cv] 31)).alloc (.cells #[.string ⟨dn.toArray⟩,av] 39))
 obtain ⟨W0,aN⟩:=Ex (w.alloc (.cells #[tv,cv] 31))
 have s0:W0.heap.size=w.heap.size+1:=by rw [<- aN];simp
 have b0:=Nb aN
 have px:W0.alloc (.cells #[.string ⟨dn.toArray⟩,av] 39)=W1:=by rw [<- aN];exact aB
 have b1:Below w.heap.size w W1:=by rw [<- px];exact b0.alloc b0.size _
 have x0:W1.heap[w.heap.size]?=some (.cells #[tv,cv] 31 (0,0)):=by rw [<- px,<- aN];exact za0 (heap_alloc_new w _) _
 have x1:W1.heap[w.heap.size+1]?=some (.cells #[.string ⟨dn.toArray⟩,av] 39 (0,0)):=by rw [<- px,<- s0];exact heap_alloc_new W0 _
 have sj:=Hy (zyA dn W1)
 have fF:=Hy (fun s w' (hb:Below w.heap.size w w') (hs:s.length<=4096)=>zkk plT tv cv s w' (zbc hT hb) Dk Dk Om)
 have BJ:=Hy (fun pt pv r w' (hb:Below w.heap.size w w') (hs:pt.length<=4096)=>zAA A dn pt pv r av w' (zbL hA hb) hf Om)
 have HX:=Hy (An x0 (An x1 b1))
 have br:=Hy aB
 obtain ⟨d0,d1⟩:=zf x1
 have z0:=zi x0
 have z1:=zi x1
 obtain ⟨Z,hZ⟩:=Ex (zcT A dn)
 rw [hZ]
 rcases zd7 dn with h | ⟨r,D,h⟩
 ·have hL:=zhn h
  rw [hL] at sj
  have HS:=Hy (show Z=false by
   rw [<- hZ]
   unfold zcT
   rcases h with h | h <;> rw [h])
  have p9:=Hy (fun w'=>show Calls prog 86 #[.string ⟨#[]⟩] w' (zeJ ([],0) w') from zgQ ⟨#[]⟩ w')
  clear hT hA hf x0 x1 aB aN px b0 b1 h hL s0 hZ
  go_enter func50,ntmps50
  go_wp2_with fail
  try rw [br.o]
  with_reducible refine sj.o.mono ?_
  rintro en w2 ⟨rfl,ak⟩
  have H2:=Hy (HX.o.2.2.trans (ak.mono HX.o.2.2.size))
  clear ak d0 d1
  go_wp2_with fail
  with_reducible refine (p9.o _).mono ?_
  rintro en w3 ⟨v3,rfl,hdn,aK⟩
  obtain ⟨pa,pc,rfl,_⟩:=hdn
  have H3:=Hy (H2.o.trans (aK.mono H2.o.size))
  clear aK
  go_wp2
  go_ret
  exact zB HS.o H3.o
 obtain ⟨dD,bP,ol⟩:=zmy h
 rw [zeV h] at sj
 have p9:=Hy (fun w'=>show Calls prog 86 #[.string ⟨(ptL r).toArray⟩] w' (zeJ ([r],0) w') from dD ▸ zgQ ⟨(ptL r).toArray⟩ w')
 have hs:Z=r.all (nmP A):=by rw [<- hZ];unfold zcT;rw [h];rfl
 have HS:=Hy hs
 have HP:=Hy ol
 have CM:=Hy (fun i hi=>zyj (nmP A) r i hi)
 have gI:=Hy (fun i hi=>zmz (nmP A) r i hi)
 have HWy:=Hy (zyk A)
 have qo:=Hy bP
 clear hT hA hf x0 x1 aB aN px b0 b1 h s0 dD bP ol hs hZ
 go_enter func50,ntmps50
 go_wp2_with fail
 try rw [br.o]
 with_reducible refine sj.o.mono ?_
 rintro en w2 ⟨rfl,ak⟩
 have H2:=Hy ak
 clear ak d0 d1
 go_wp2_with fail
 with_reducible refine (p9.o _).mono ?_
 rintro en w3 ⟨v3,rfl,hdn,aK⟩
 obtain ⟨pa,pc,rfl,_,jr⟩:=hdn
 obtain ⟨pg,po,rv,rfl,dN,mN,cH⟩:=jr 0 Sm
 have cH:zb8 w3 rv r:=cH
 obtain ⟨ra,rc,rfl,_,ae⟩:=cH
 have im:=H2.o.trans (aK.mono H2.o.size)
 have mN:w3.cell? ⟨pg,po,none⟩=some (.slice ra r.length rc):=by simpa using mN
 have HM:=Hy ae
 obtain ⟨m,hm⟩:=Ex r.length
 have dp:=Hy hm
 have BL:m<=4096:=by rw [<- hm];exact qo.o
 rw [hm] at mN
 have H3:=Hy (An (zj HX.o.1 im z0) (An (zj HX.o.2.1 im z1) (An (HX.o.2.2.trans (im.mono HX.o.2.2.size)) (An mN dN))))
 simp only [List.length_cons,List.length_nil]
 clear aK jr ae im mN dN hm
 go_wp2
 go_loopw [9] (fun x wr=>∃ i:Nat,i<=m/\x=.int .i64 (i:Nat)/\Below w3.heap.size w3 wr/\(r.take i).all (nmP A)=true) (fun x _=>m - (intOf x).toNat)
 case atStart=>exact ⟨0,by omega,rfl,Br _,rfl⟩
 case round =>
  obtain ⟨i,hi,rfl,hb,af⟩:=hrel
  have cQ:=hb.size
  have aq:=H3.o.2.2.1.trans (hb.mono H3.o.2.2.1.size)
  have MY:=Nat.lt_of_lt_of_le H3.o.2.2.2.2 cQ
  have cp:=(hb.cell (p:=⟨pg,_,none⟩) H3.o.2.2.2.2).trans H3.o.2.2.2.1
  by_cases aj:i<m
  ·have cW:(i:Int)<(m:Int):=by omega
   have cJ:i<r.length:=by rw [dp.o];exact aj
   obtain ⟨ag,ao,rfl,j6,BM,BN⟩:=HM.o i cJ
   have a0:=(hb.cell (p:=⟨ag,_,none⟩) j6).trans BM
   have a1:=(hb.cell (p:=⟨ag,_,none⟩) j6).trans BN
   have CN:=Nat.lt_of_lt_of_le j6 cQ
   have bm:=CM.o i cJ
   have bJ:=gI.o i cJ
   have dN:=HP.o _ (List.getElem_mem cJ)
   obtain ⟨⟨pt,pv⟩,oO⟩:∃ x,r[i]=x:=⟨_,rfl⟩
   rw [oO] at a0 a1 bm bJ dN
   dsimp only at a0 a1 dN
   obtain ⟨tn,tr,ts,ok,dA,CO,CP⟩:=HWy.o pt pv
   have ys:=Ob H3.o.1 hb
   have ye:=Ob H3.o.2.1 hb
   have iZ:=fun w' (co:Below wr.heap.size wr w')=>show Calls prog 87 #[.agg #[tv,cv],.string ⟨pt.toArray⟩] w' (fun en w''=>en=.returned (.tuple #[.agg #[.string ⟨tn.toArray⟩,.int .i64 tr,.bool ts],.bool ok])/\Below w'.heap.size w' w'') from by have q:=fF.o pt w' (aq.trans (co.mono aq.size)) dN.1;unfold zkj at q;rw [dA] at q;exact q
   have HHk:=Hy (fun w' (co:Below wr.heap.size wr w')=>BJ.o pt pv tr w' (aq.trans (co.mono aq.size)) dN.1)
   have HB:=Hy (fun wa (IK:Below wr.drew.heap.size wr.drew wa)=>show (wa.cell? ⟨w.heap.size,0,none⟩=some tv/\wa.cell? ⟨w.heap.size,1,none⟩=some cv)/\wa.cell? ⟨pg,po,none⟩=some (.slice (some ⟨ag,ao,none⟩) m rc)/\wa.cell? ⟨ag,ao+i*2,none⟩=some (.string ⟨pt.toArray⟩)/\Calls prog 87 #[.agg #[tv,cv],.string ⟨pt.toArray⟩] wa (fun en w''=>en=.returned (.tuple #[.agg #[.string ⟨tn.toArray⟩,.int .i64 tr,.bool ts],.bool ok])/\Below wa.heap.size wa w'')/\wr.heap.size<=wa.heap.size from by
    have hw:=(Br wr).drew.trans IK
    exact ⟨zf (Ob ys hw),(hw.cell (p:=⟨pg,_,none⟩) MY).trans cp,(hw.cell (p:=⟨ag,_,none⟩) CN).trans a0,iZ wa hw,hw.size⟩)
   have H:=Hy (An hb (An aq (An bm (An bJ (An af (An CO (An CP ye)))))))
   have HC:=Hy (An a0 (An a1 (An cp (An CN MY))))
   clear hb aq BM BN a0 bm bJ af CO CP ys ye iZ dA oO cQ dN a1
   go_wp2_with fail
   refine wp_region_noPanic ?_
   refine wp_region_held_drew (S:=fun _=>True) Kr trivial (fun _=>?_)
   refine zfJ (f:=11) (A:=fun j=>decide (j<13)) (D:=[39,40,41,42,43,44,45,46,47,38,48,49,10]) (G:=mtG (.agg #[tv,cv]) (.slice (some ⟨pg,po,none⟩) 1 pc) (.pointer (some ⟨pg,po,none⟩)) (.slice (some ⟨ag,ao,none⟩) m rc) i (.pointer (some ⟨ag,ao+i*2,none⟩)) pt (.agg #[.string ⟨tn.toArray⟩,.int .i64 tr,.bool ts]) ok wr.heap.size) (LIT:=#[true,true,true,true,true,true,true,true,true,true,true,true,true,false,false]) (r:=2) Kr Kr (fun _=>by kernel_rfl) (fun _=>rfl) Kr (fun _=>by kernel_rfl) (fun _=>by kernel_rfl) Kr (fun j v w w' h _ hb=>zyi _ _ _ _ _ _ _ _ _ _ j v w w' h hb) (fun _ _ _ _ _ h=>h) ?op ?yf ?rest
   case op =>
    intro i' cG hA a wa aq aC ah
    have dr:i'<13:=by simpa using hA
    have aD:=HB.o _ aq
    rcases (show i'=0\/i'=1\/i'=2\/i'=3\/i'=4\/i'=5\/i'=6\/i'=7\/i'=8\/i'=9\/i'=10\/i'=11\/i'=12 by omega) with rfl | rfl | rfl | rfl | rfl | rfl | rfl | rfl | rfl | rfl | rfl | rfl | rfl
    ·have l5:a.eval (.tmp 2)=.pointer (some ⟨w.heap.size,0,none⟩):=aC 2 rfl
     have CQ:=Gd l5
     obtain ⟨c0,c1⟩:=aD.1
     exact zcH
    ·have kn:a.eval (.tmp 7)=.slice (some ⟨pg,po,none⟩) 1 pc:=aC 7 rfl
     have qC:=Gd kn
     exact zcH
    ·have tC:a.eval (.tmp 40)=.slice (some ⟨pg,po,none⟩) 1 pc:=ah 1 40 De Kr rfl
     have yy:=Gd tC
     exact zcH
    ·have cw:a.eval (.tmp 41)=.pointer (some ⟨pg,po,none⟩):=ah 2 41 De Kr rfl
     have bF:=Gd cw
     have c0:=aD.2.1
     exact zcH
    ·have qF:a.eval (.tmp 9)=.int .i64 i:=aC 9 rfl
     have nw:=Gd qF
     exact zcH
    ·have kt:a.eval (.tmp 42)=.slice (some ⟨ag,ao,none⟩) m rc:=ah 3 42 De Kr rfl
     have nk:=Gd kt
     have ko:a.eval (.tmp 43)=.int .i64 i:=ah 4 43 De Kr rfl
     have m9:=Gd ko
     exact zcH
    ·have kq:a.eval (.tmp 44)=.pointer (some ⟨ag,ao+i*2,none⟩):=ah 5 44 De Kr rfl
     have nh:=Gd kq
     exact zcH
    ·have kr:a.eval (.tmp 45)=.pointer (some ⟨ag,ao+i*2,none⟩):=ah 6 45 De Kr rfl
     have ni:=Gd kr
     have c0:=aD.2.2.1
     exact zcH
    ·have tB:a.eval (.tmp 39)=.agg #[tv,cv]:=ah 0 39 De Kr rfl
     have yx:=Gd tB
     have ks:a.eval (.tmp 46)=.string ⟨pt.toArray⟩:=ah 7 46 De Kr rfl
     have nj:=Gd ks
     have hC:=aD.2.2.2.1
     refine ⟨rfl,fun K hK=>?_⟩
     simp only [Sg] at hK ⊢
     go_simp
     with_reducible refine hC.mono ?_
     rintro en w6 ⟨rfl,az⟩
     go_simp
     exact hK _ _ rfl az
    ·have fk:a.eval (.tmp 47)=.tuple #[.agg #[.string ⟨tn.toArray⟩,.int .i64 tr,.bool ts],.bool ok]:=ah 8 47 De Kr rfl
     have iu:=Gd fk
     exact zcH
    ·have py:a.eval (.tmp 38)=.tuple #[.agg #[.string ⟨tn.toArray⟩,.int .i64 tr,.bool ts],.bool ok]:=ah 9 38 De Kr rfl
     have sL:=Gd py
     exact zcH
    ·have py:a.eval (.tmp 38)=.tuple #[.agg #[.string ⟨tn.toArray⟩,.int .i64 tr,.bool ts],.bool ok]:=ah 9 38 De Kr rfl
     have sL:=Gd py
     exact zcH
    refine ⟨rfl,fun K hK=>?_⟩
    simp only [Sg] at hK ⊢
    go_simp
    exact hK _ _ ⟨_,rfl,heap_alloc_new wa _,aD.2.2.2.2⟩ ((Br wa).alloc Lr _)
   case yf =>
    intro hf a wa ah
    have py:a.eval (.tmp 38)=.tuple #[.agg #[.string ⟨tn.toArray⟩,.int .i64 tr,.bool ts],.bool ok]:=ah 9 38 De Kr rfl
    have sL:=Gd py
    refine ⟨.bool ok,.inl ⟨rfl,fun w' _=>?_⟩,rfl⟩
    simp only [Sg]
    go_simp
   case rest =>
    intro fuel a wa aq ha hG
    have rR:a.tmps.getD 48 undef=.agg #[.string ⟨tn.toArray⟩,.int .i64 tr,.bool ts]:=hG 10 48 De rfl rfl
    have nN:a.tmps.getD 49 undef=.bool ok:=hG 11 49 De rfl rfl
    have gbx:=hG 12 10 De rfl rfl
    obtain ⟨bb,mF,dM,bp⟩:=gbx
    obtain ⟨x39,np⟩:=Ex (a.tmps.getD 39 undef)
    obtain ⟨x40,nr⟩:=Ex (a.tmps.getD 40 undef)
    obtain ⟨KD,jz⟩:=Ex (a.tmps.getD 41 undef)
    obtain ⟨FF,go⟩:=Ex (a.tmps.getD 42 undef)
    obtain ⟨FG,gp⟩:=Ex (a.tmps.getD 43 undef)
    obtain ⟨FH,gr⟩:=Ex (a.tmps.getD 44 undef)
    obtain ⟨FI,gt⟩:=Ex (a.tmps.getD 45 undef)
    obtain ⟨FJ,gu⟩:=Ex (a.tmps.getD 46 undef)
    obtain ⟨Ej,eP⟩:=Ex (a.tmps.getD 47 undef)
    obtain ⟨x38,CR⟩:=Ex (a.tmps.getD 38 undef)
    simp only [List.foldl_cons,List.foldl_nil,rR,nN,mF,np,nr,jz,go,gp,gr,gt,gu,eP,CR,Act.put,Ss] at ha
    clear rR nN mF np nr jz go gp gr gt gu eP CR hG
    subst ha
    obtain ⟨q0,q1,q2⟩:=ze dM
    have u0:=zc dM 0
    have u1:=zc dM 1
    have u2:=zc dM 2
    refine wpAnyH_ready (rs:=[13]) Kr Sm ?_
    refine AllReadyH.cons (o:=_) rfl (fun KR aM=>?c13) AllReadyH.nil
    go_simp
    refine aM.out _ _ trivial (fun _=>?_)
    clear aM KR
    try simp only [Sg,Act.put,Ss]
    refine wpAnyH_ready (rs:=[14]) Kr Sm ?_
    refine AllReadyH.cons (o:=_) rfl (fun KR aM=>?c14) AllReadyH.nil
    go_simp
    refine aM.out _ _ trivial (fun _=>?_)
    clear aM KR
    try simp only [Sg,Act.put,Ss]
    refine wpAnyH_done Kr ?_ _
    refine NoPanic.normal ?_
    have hw:=(Br wr).drew.trans aq
    obtain ⟨W8,qH⟩:=Ex (((wa.setCell ⟨bb,0,none⟩ (.string ⟨tn.toArray⟩)).setCell ⟨bb,1,none⟩ (.int .i64 tr)).setCell ⟨bb,2,none⟩ (.bool ts))
    have pz:Below wr.heap.size wr W8:=by rw [<- qH];exact zyh hw bp _ _ _
    have x8:=zyg dM (.string ⟨tn.toArray⟩) (.int .i64 tr) (.bool ts)
    rw [qH] at x8 ⊢
    have ye:=Ob H.o.2.2.2.2.2.2.2 pz
    have fV:=H.o.2.1.trans (pz.mono H.o.2.1.size)
    have CS:=H.o.1.trans (pz.mono H.o.1.size)
    obtain ⟨k0,k1⟩:=zf ye
    obtain ⟨_,t1,_⟩:=ze x8
    have p0:=(pz.cell (p:=⟨ag,_,none⟩) HC.o.2.2.2.1).trans HC.o.1
    have p1:=(pz.cell (p:=⟨ag,_,none⟩) HC.o.2.2.2.1).trans HC.o.2.1
    have pp:=(pz.cell (p:=⟨pg,_,none⟩) HC.o.2.2.2.2).trans HC.o.2.2.1
    have HHw:=Hy (fun w' (co:Below W8.heap.size W8 w')=>HHk.o w' (pz.trans (co.mono pz.size)))
    have H8:=Hy (An CS (An fV ye))
    have zg:=Nat.lt_of_lt_of_le HC.o.2.2.2.1 pz.size
    have zp:=Nat.lt_of_lt_of_le HC.o.2.2.2.2 pz.size
    have zx:=zi x8
    have zy:=zi ye
    obtain ⟨bt,jy⟩:=Ex bb
    rw [jy] at t1 zx ⊢
    clear q0 q1 q2 u0 u1 u2 hw qH pz x8 ye fV CS dM bp aq jy cp
    cases ok with
    | false =>
     have HE:=Hy (show Z=false by rw [HS.o];exact H.o.2.2.2.1 (H.o.2.2.2.2.2.1 rfl))
     go_wp2_with fail
     go_quiet (fail)
     have HD:=Hy (zae H8.o.2.1 nq)
     go_wp2
     go_ret
     exact zB HE.o HD.o
    | true =>
     have aS:=H.o.2.2.2.2.2.2.1 rfl
     obtain ⟨q,hq⟩:=Ex (nmP A (pt,pv))
     have IL:=HHw.o
     rw [aS,hq] at IL
     have HHr:=Hy IL
     have bm:=H.o.2.2.1
     have bJ:=H.o.2.2.2.1
     rw [hq] at bm bJ
     have HQ:=Hy (An bm bJ)
     clear aS hq IL bm bJ
     go_wp2_with fail
     go_region_held3 (fun w'=>w'.cell? ⟨w.heap.size+1,0,none⟩=some (.string ⟨dn.toArray⟩)/\w'.cell? ⟨w.heap.size+1,1,none⟩=some av/\w'.cell? ⟨bt,1,none⟩=some (.int .i64 tr)/\w'.cell? ⟨pg,po,none⟩=some (.slice (some ⟨ag,ao,none⟩) m rc)/\w'.cell? ⟨ag,ao+i*2,none⟩=some (.string ⟨pt.toArray⟩)/\w'.cell? ⟨ag,ao+i*2+1,none⟩=some (.string ⟨pv.toArray⟩)) (first | exact ⟨e0,e1,e2,e3,e4,e5⟩ | exact ⟨k0,k1,t1,pp,p0,p1⟩ | go_keep)
      (first | (go_at_call 88;(with_reducible refine (HHr.o _ (by first | exact (Br _).drew | exact Br _)).mono ?_);rintro en wz ⟨rfl,ai⟩;have ax:Below W8.heap.size W8 wz:=(by first | exact (Br W8).drew.trans ai | exact ai);have e0:=(ax.cell (p:=⟨w.heap.size+1,0,none⟩) zy).trans k0;have e1:=(ax.cell (p:=⟨w.heap.size+1,1,none⟩) zy).trans k1;have e2:=(ax.cell (p:=⟨bt,1,none⟩) zx).trans t1;have e3:=(ax.cell (p:=⟨pg,_,none⟩) zp).trans pp;have e4:=(ax.cell (p:=⟨ag,_,none⟩) zg).trans p0;have e5:=(ax.cell (p:=⟨ag,_,none⟩) zg).trans p1;dsimp only;clear ai))
     all_goals
      have H9:=Hy (An (H8.o.1.trans (ax.mono H8.o.1.size)) (H8.o.2.1.trans (ax.mono H8.o.2.1.size)))
      clear ax e0 e1 e2 e3 e4 e5 k0 k1 t1 pp p0 p1
      cases q with
      | true =>
       have mE:=Hy (show (r.take (i+1)).all (nmP A)=true by rw [HQ.o.1,H.o.2.2.2.2.1];rfl)
       go_wp2
       exact ⟨⟨i+1,by omega,by go_num,H9.o.1,mE.o⟩,by simp [intOf];omega⟩
      | false =>
       have HE:=Hy (show Z=false by rw [HS.o];exact HQ.o.2 rfl)
       go_wp2
       go_ret
       exact zB HE.o H9.o.2
  obtain rfl:i=m:=by omega
  have HE:=Hy (show Z=true by rw [HS.o,<- af,<- dp.o,List.take_length])
  have HB:=Hy aq
  clear hb af aq
  go_wp2
  go_ret
  exact zB HE.o HB.o
end Go.Proofs.YtijglbolppkefaaGreatDoor

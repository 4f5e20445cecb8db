/- A map from texts to values of. -/
import Derived.Test.YtijglbolppkefaaGreatDoorSnAL
import Derived.Test.YtijglbolppkefaaGreatDoorMEnAB
import Derived.Maps.RangeWalk
import Derived.Test.YtijglbolppkefaaGreatDoorDtPN
import Derived.Test.YtijglbolppkefaaGreatDoorDqG
import Derived.Test.YtijglbolppkefaaGreatDoorGenB
import Derived.Test.YtijglbolppkefaaGreatDoorEnQT
import Derived.Test.YtijglbolppkefaaGreatDoorEnJN
import Derived.Carry
set_option linter.unusedVariables false
set_option linter.unusedSimpArgs false
set_option maxHeartbeats 25600000
set_option maxRecDepth 100000
namespace Go.Proofs.YtijglbolppkefaaGreatDoor
open Go.Proofs.Tryz
open Go Go.RowKit Go.Proofs.BerK Go.Proofs.MemK Go.Maps Go.WideMaps
variable {w w' : World} {B b g n size : Nat} {f : Bs -> Option Value} {S : Nat -> Prop} {ops : Array Oper} {rest : List Oper} {o : Oper} {a : Act} {Q : Exit -> Act -> World -> Prop} {e : TypeId} {sv v : Value} {xs : List Value} {L : List Ent}
theorem zl7 {p:Prop} (h:p:=by
 refine hK w' _ ⟨_,?_,zto (ab.tidy z8) hD s val,?_⟩ rfl h2
 ·have h3:=zl9 h1
  rw [size_put (ab.tidy z8),hD.1,aW] at h3
  exact h3
 rw [size_put (ab.tidy z8),hD.1,aW]):p:=h
theorem zl8 {p:Prop} (h:p:=by
 go_wp2
 go_ret2
 exact ⟨i,_,rfl,by rw [HL.o];omega,H.o.1,H.o.2.1,H5.o⟩):p:=h
theorem zl9 {H:Type} {P:Program} {k:TypeId} {R:Value->Option (DataW H × List MemPlace)} {D:DataW H} (h:w.ownsMap P k R b n D):w.ownsMap P k R b (Maps.size D) D:=by
 obtain ⟨es,clock,hb,F,hs,rfl⟩:=h
 exact ⟨es,clock,hb,F,by simp [Maps.size,length_sorted],rfl⟩
def iF:Value->Option (DataW Value × List MemPlace):=fun v=>some (.held v,[])
def zdR (D:DataW Value) (f:Bs->Option Value):Prop :=
 (∀ s:Bs,Maps.has D (.string s)=(f s).isSome)/\(∀ (s:Bs) (v:Value),f s=some v->∀ z,D.atKey (.string s) z=.held v)/\∀ kl,Maps.has D kl=true->∃ s:Bs,kl=.string s
def zI (w:World) (b:Nat) (f:Bs->Option Value) (n:Nat):Prop :=
 ∃ D:DataW Value,w.ownsMap prog 9 iF b n D/\zdR D f/\Maps.size D=n
theorem zma (w:World):zI (w.alloc (.map #[] 0)) w.heap.size (fun _=>none) 0:=⟨_,World.ownsMap_made _ _ _ _,⟨fun _=>rfl,⟨fun _ _ h=>(by cases h),fun _ h=>(by cases h)⟩⟩,rfl⟩
theorem zaS (h:zI w b f n):b<w.heap.size:=by obtain ⟨D,h,_⟩:=h;exact h.lt
theorem za6 (h:zI w b f n) (hb:w'.heap[b]? = w.heap[b]?):zI w' b f n:=by
 obtain ⟨D,⟨es,clock,hq,F,oy,hD⟩,hN⟩:=h
 exact ⟨D,⟨es,clock,hb.trans hq,F,oy,hD⟩,hN⟩
theorem zcR (h:zI w b f n) (hc:Chg S w w') (hs:¬ S b):zI w' b f n:=za6 h (hc.block b (zaS h) hs)
theorem zaY (h:zI w b f n):∃ es c,w.heap[b]?=some (.map es c):=by
 obtain ⟨D,⟨es,clock,hq,_⟩,_⟩:=h
 exact ⟨es,clock,hq⟩
theorem zit {a b:Value} (h:(DataW.held a:DataW Value)=.held b):a=b:=by cases h;rfl
theorem zmb {D:DataW Value} (h:zdR D f) (s:Bs) (z:Value):D.atKey (.string s) (.held z)=.held ((f s).getD z):=by
 cases hq:f s with
 | some v=>rw [h.2.1 s v hq];rfl
 | none =>
  have:=h.1 s
  rw [hq] at this
  rw [atKey_of_not_has this];rfl
theorem zmc (h:zI w b f n) {t e:TypeId} (ht:prog.underlying t=some (.map 9 e)) {z:Value} (hz:(zeroValue e).run prog w=.ok z w) (s:Bs) (hs:s.length<=140737488355328) :
  (Instr.lookup t (.map (some b)) (.string ⟨s.toArray⟩) true).run prog w=.ok (.tuple #[(f s).getD z,.bool (f s).isSome]) w:=by
 obtain ⟨D,hm,hD,_⟩:=h
 obtain ⟨v,ps,aV,hv⟩:=hm.look_ok z8 ht hz (show iF z=some (.held z,[]) from rfl) (zce s hs)
 rw [aV]
 have e1:(DataW.held v:DataW Value)=D.atKey (.string s) (.held z):=congrArg Prod.fst (Option.some.inj hv)
 rw [zmb hD] at e1
 rw [zit e1,hD.1]
theorem ziu (h:zI w b f n) {t e:TypeId} (ht:prog.underlying t=some (.map 9 e)) {z:Value} (hz:(zeroValue e).run prog w=.ok z w) (s:Bs) (hs:s.length<=140737488355328) :
  (Instr.lookup t (.map (some b)) (.string ⟨s.toArray⟩) false).run prog w=.ok ((f s).getD z) w:=by
 obtain ⟨D,hm,hD,_⟩:=h
 obtain ⟨v,ps,aV,hv⟩:=hm.lookup z8 ht hz (show iF z=some (.held z,[]) from rfl) (zce s hs)
 rw [aV]
 have e1:(DataW.held v:DataW Value)=D.atKey (.string s) (.held z):=congrArg Prod.fst (Option.some.inj hv)
 rw [zmb hD] at e1
 rw [zit e1]
def upF (f:Bs->Option Value) (s:Bs) (o:Option Value):Bs->Option Value:=fun t=>if t=s then o else f t
theorem zto {D:DataW Value} (hT:Tidy D) (h:zdR D f) (s:Bs) (v:Value):zdR (D.put (.string s) (.held v)) (upF f s (some v)):=by
 refine ⟨fun t=>?_,fun t u hu z=>?_,fun kl hk=>?_⟩
 ·unfold upF
  by_cases e:t=s
  ·subst e;rw [has_put_same hT.isMap zfU,if_pos rfl];rfl
  rw [has_put_other (fun q=>e (by injection q)),if_neg e,h.1]
 ·unfold upF at hu
  by_cases e:t=s
  ·subst e
   rw [if_pos rfl] at hu
   rw [atKey_put_same hT.isMap zfU,Option.some.inj hu]
  rw [if_neg e] at hu
  rw [atKey_put_other (fun q=>e (by injection q)),h.2.1 t u hu]
 by_cases e:kl=.string s
 ·exact ⟨s,e⟩
 rw [has_put_other e] at hk
 exact h.2.2 kl hk
theorem ztp {D:DataW Value} (h:zdR D f) (s:Bs):zdR (D.del (.string s)) (upF f s none):=by
 refine ⟨fun t=>?_,fun t u hu z=>?_,fun kl hk=>?_⟩
 ·unfold upF
  by_cases e:t=s
  ·subst e;rw [has_del_same,if_pos rfl];rfl
  rw [has_del_other (fun q=>e (by injection q)),if_neg e,h.1]
 ·unfold upF at hu
  by_cases e:t=s
  ·rw [if_pos e] at hu;cases hu
  rw [if_neg e] at hu
  rw [atKey_del_other (fun q=>e (by injection q)),h.2.1 t u hu]
 by_cases e:kl=.string s
 ·exact ⟨s,e⟩
 rw [has_del_other e] at hk
 exact h.2.2 kl hk
def zdS (f:Bs->Option Value) (s:Bs) (n n':Nat):Prop:=n'=if (f s).isSome then n else n+1
def ziv (f:Bs->Option Value) (s:Bs) (n n':Nat):Prop:=n'=n - if (f s).isSome then 1 else 0
theorem ztq
  (hg:o.guard=none) (m x v:Operand) (t e:TypeId) (oz:o.op=Op.mapUpdate t m x v) (ht:prog.underlying t=some (.map 9 e)) (b n:Nat) (f:Bs->Option Value)
  (hm:a.eval m=.map (some b)) (h:zI w b f n) (hn:n<maxLen) (s:Bs) (val:Value) (hx:a.eval x=.string ⟨s.toArray⟩) (hv:a.eval v=val) (hs:s.length<=140737488355328)
  (hK:∀ w' n',zI w' b (upF f s (some val)) n'->zdS f s n n'->w.mapTurned w' b->wpList prog ops Q rest (a.put o.dst undef) w') :
  wpList prog ops Q (o :: rest) a w:=by
 obtain ⟨D,ab,hD,aW⟩:=h
 refine wpList_mapUpdate_in w hg m x v t oz 9 e z8 ht iF b n D hm ab hn _ val (.string s) hx hv (zce s hs) (.held val) [] rfl ?_
 intro w' h1 h2
 exact zl7
theorem zfg {K:Act->World->Prop} {E:Prop}
  (hg:o.guard=none) (m x v:Operand) (t e:TypeId) (oz:o.op=Op.mapUpdate t m x v) (ht:prog.underlying t=some (.map 9 e)) (b n:Nat) (f:Bs->Option Value)
  (hm:a.eval m=.map (some b)) (h:zI w b f n) (hn:n<maxLen) (s:Bs) (val:Value) (hx:a.eval x=.string ⟨s.toArray⟩) (hv:a.eval v=val) (hs:s.length<=140737488355328)
  (hK:∀ w' n',zI w' b (upF f s (some val)) n'->zdS f s n n'->w.mapTurned w' b->K (a.put o.dst undef) w') :
  if Region.wanted o (yielded ops a.tmps)=true then Oper.wp prog o a w K Q else E:=by
 have hw:Region.wanted o (yielded ops a.tmps)=true:=by simp [Region.wanted,hg]
 rw [if_pos hw]
 obtain ⟨D,ab,hD,aW⟩:=h
 obtain ⟨w',aV,h1,h2⟩:=ab.store (k:=9) (e:=e) z8 ht hn (zce s hs) (show iF val=some (.held val,[]) from rfl)
 unfold Oper.wp
 simp [execOp,oz,hm,hx,hv,aV,Result.andThen]
 exact zl7
theorem zmd
  (hg:o.guard=none) (m x:Operand) (t e:TypeId) (oz:o.op=Op.call { callee:=Callee.builtin Builtin.delete,args:=#[m,x],argTypes:=#[t,9] }) (ht:prog.underlying t=some (.map 9 e)) (b n:Nat) (f:Bs->Option Value)
  (hm:a.eval m=.map (some b)) (h:zI w b f n) (s:Bs) (hx:a.eval x=.string ⟨s.toArray⟩) (hs:s.length<=140737488355328)
  (hK:∀ w' n',zI w' b (upF f s none) n'->ziv f s n n'->w.mapTurned w' b->wpList prog ops Q rest (a.put o.dst (.tuple #[])) w') :
  wpList prog ops Q (o :: rest) a w:=by
 obtain ⟨D,ab,hD,aW⟩:=h
 refine wpList_delete_own w hg m x t 9 oz e z8 ht iF b n D hm ab _ (.string s) hx (zce s hs) ?_
 intro w' h1 h2
 have h4:=size_del (k:=.string s) (ab.tidy z8)
 rw [hD.1,aW] at h4
 have h5:Maps.size (D.del (.string s))=n - if (f s).isSome then 1 else 0:=by omega
 refine hK w' _ ⟨_,?_,ztp hD s,h5⟩ rfl h2
 rw [<- h5];exact zl9 h1
theorem ziw (h:zI w b f n) {t e:TypeId} (ht:prog.underlying t=some (.map 9 e)) (ty:TypeId):(Builtin.len_ #[t] ty #[.map (some b)]).run prog w=.ok (.int .i64 (n:Nat)) w:=by
 obtain ⟨D,ab,hD,aW⟩:=h
 rw [ab.len ht ty,aW]
theorem zbi (h:w.mapTurned w' b):Chg (fun k=>k=b) w w':=by
 have g:=h.grown
 exact ⟨g.os,g.tape,g.output,g.size,fun k hk hn=>g.block k hk (fun e=>hn (by injection e))⟩
theorem zme:∀ (KS:List (Bs)) (es:List (Lit × DataW Value)),es.Pairwise (fun p q=>p.1≠q.1)->(∀ p∈es,∃ s∈KS,p.1=.string s)->es.length<=KS.length
 | [],es,_,h=>by
  cases es with
  | nil=>simp
  | cons p es=>obtain ⟨s,hs,_⟩:=h p Sm;simp at hs
 | a :: KS,es,hp,h=>by
  have h1:=length_strike (k:=.string a) es hp
  have h2:=zme KS (es.filter fun p => !p.1.sameKey (.string a)) (hp.filter _) (fun p Bn=>by
   obtain ⟨m1,m2⟩:=List.mem_filter.1 Bn
   obtain ⟨s,hs,e⟩:=h p m1
   rcases List.mem_cons.1 hs with rfl | hs
   ·rw [e] at m2
    simp [Lit.sameKey] at m2
   exact ⟨s,hs,e⟩)
  rw [List.length_cons]
  split at h1 <;> omega
theorem ztr (h:zI w b f n) (KS:List (Bs)) (hk:∀ s,(f s).isSome=true->s∈KS):n<=KS.length:=by
 obtain ⟨D,ab,hD,rfl⟩:=h
 obtain ⟨es,rfl,hp⟩:=ab.tidy z8
 rw [size_eq]
 refine zme KS es hp (fun p Bn=>?_)
 have hh:Maps.has (.map es) p.1=true:=by
  obtain ⟨s,e⟩ | aH:(∃ s:Bs,p.1=.string s)\/¬ ∃ s:Bs,p.1=.string s:=Classical.em _
  ·rw [has_eq,List.any_eq_true]
   exact ⟨p,Bn,by rw [e];simp [Lit.sameKey]⟩
  rw [has_eq,List.any_eq_true]
  obtain ⟨es2,e2,_,bh⟩:=ab.entries z8
  injection e2 with e2
  subst e2
  exact ⟨p,Bn,WideAt.sameKey_self (bh p Bn)⟩
 obtain ⟨s,e⟩:=hD.2.2 _ hh
 refine ⟨s,hk s ?_,e⟩
 rw [<- hD.1,<- e];exact hh
def Off (S:Nat->Prop) (w:World) (P:World->Prop):Prop:=∀ w',Chg S w w'->P w'
theorem Off.now {S:Nat->Prop} {w:World} {P:World->Prop} (h:Off S w P):P w:=h w (Chg.refl _ _)
theorem Off.step {S S':Nat->Prop} {w w1:World} {P:World->Prop} (h:Off S w P) (hc:Chg S w w1) (hs:∀ k,S' k->S k\/w.heap.size<=k):Off S' w1 P:=fun w2 h2 =>
 h w2 (hc.trans h2 (fun i hi ht=>by
  rcases hs i ht with k | k
  ·exact k
  omega))
theorem Off.keep {S:Nat->Prop} {w w1:World} {P:World->Prop} (h:Off S w P) (hc:Chg S w w1):Off S w1 P:=h.step hc (fun k hk=>.inl hk)
theorem Off.below {S:Nat->Prop} {w w1:World} {P:World->Prop} (h:Off S w P) (hc:Below w.heap.size w w1):Off S w1 P:=h.keep (Chg.ofBelow hc)
theorem Off.and {S:Nat->Prop} {w:World} {P Q:World->Prop} (h:Off S w P) (h2:Off S w Q):Off S w (fun w=>P w/\Q w):=fun w' hc=>⟨h w' hc,h2 w' hc⟩
theorem Off.imp {S:Nat->Prop} {w:World} {P Q:World->Prop} (h:Off S w P) (h2:∀ w,P w->Q w):Off S w Q:=fun w' hc=>h2 w' (h w' hc)
theorem zts {w0:World} {P:World->Prop} (h:∀ w',Below w0.heap.size w0 w'->P w') (hb:Below w0.heap.size w0 w) (hs:∀ k,S k->w0.heap.size<=k):Off S w P:=fun w' hc =>
 h w' (hb.trans (hc.toBelow hb.size (fun k _ hk=>hs k hk)))
def zbA (w:World) (k:Nat):Prop:=(∃ es c,w.heap[k]?=some (.map es c))\/∃ cs m,w.heap[k]?=some (.cells cs 79 m)
theorem ztt (h:w.ownsRow B e size v n xs) (he:e≠79) (k:Nat) (hk:v.ownBlock=some k):¬ zbA w k:=by
 rcases h.2 with ⟨rfl,_⟩ | ⟨g,cap,cur,rfl,hB,hg,_⟩
 ·simp [Value.ownBlock] at hk
 simp [Value.ownBlock] at hk
 subst hk
 rintro (⟨es,c,h2⟩ | ⟨cs,m,h2⟩)
 ·rw [hg] at h2;cases h2
 rw [hg] at h2
 injection h2 with h2
 injection h2 with h3 h4 h5
 exact he h4
theorem zix (hs:∀ k,S k->zbA w k) (h:w.ownsRow B e size v n xs) (he:e≠79):Off S w (fun w=>w.ownsRow B e size v n xs) :=
 fun w' hc=>zz h hc (fun k hk hS=>ztt h he k hk (hs k hS))
theorem zmf {A:List Atr} (hs:∀ k,S k->zbA w k) (h:zC w v A):Off S w (fun w=>zC w v A):=fun w' hc=>by
 obtain ⟨Lq,B,⟨h1,h2⟩,h3⟩:=h
 refine ⟨Lq,B,⟨h1,fun i i1 i2=>?_⟩,zix hs h3 De w' hc⟩
 obtain ⟨e,B2,hB⟩:=h2 i i1 i2
 exact ⟨e,B2,zix hs hB De w' hc⟩
def zcx (w:World) (f:Bs->Option Value) (L:List Ent):Prop :=
 ∀ s,(lkE L s=none->f s=none)/\∀ e,lkE L s=some e->∃ v,f s=some (.agg #[.string ⟨e.1.toArray⟩,v])/\zC w v e.2
def zS (KF:Bs->List Av) (F:Bs->Value):Bs->Option Value:=fun p=>if KF p=[] then none else some (F p)
def zb5 (w:World) (B:Nat) (F:Bs->Value) (KF:Bs->List Av):Prop :=
 ∀ p,(KF p=[]->F p=.slice none 0 0)/\w.ownsRow B 79 2 (F p) (KF p).length (avc (KF p))/\∀ q,p≠q->zaq (F p) (F q)
def trS (eb bb:Nat) (F:Bs->Value):Nat->Prop:=fun k=>k=eb\/k=bb\/∃ p,(F p).ownBlock=some k
def zU (w:World) (B g:Nat) (sv:Value) (S:Nat->Prop) (L:List Ent):Prop :=
 ∃ eb bb fe F nb,S=trS eb bb F/\w.heap[g]?=some (.cells #[sv,.map (some eb),.map (some bb)] 62 (0,0))/\(B<=eb/\B<=bb/\eb≠bb/\B<=w.heap.size) /\
  zI w eb fe L.length/\zcx w fe L/\zI w bb (zS (zk L) F) nb/\zb5 w B F (zk L)
theorem zap (h:zU w B g sv S L):∀ k,S k->zbA w k/\B<=k/\k<w.heap.size/\k≠g:=by
 obtain ⟨eb,bb,fe,F,nb,rfl,hg,⟨gR,gb,_,_⟩,h1,_,h2,h3⟩:=h
 intro k hk
 rcases hk with rfl | rfl | ⟨p,hp⟩
 ·obtain ⟨es,c,hm⟩:=zaY h1
  refine ⟨.inl ⟨es,c,hm⟩,gR,zaS h1,?_⟩
  rintro rfl
  rw [hg] at hm;cases hm
 ·obtain ⟨es,c,hm⟩:=zaY h2
  refine ⟨.inl ⟨es,c,hm⟩,gb,zaS h2,?_⟩
  rintro rfl
  rw [hg] at hm;cases hm
 have hr:=(h3 p).2.1
 obtain ⟨q1,q2⟩:=hr.lt k hp
 rcases hr.2 with ⟨e,_⟩ | ⟨g',cap,cur,e,hB,cO,_⟩
 ·rw [e] at hp;simp [Value.ownBlock] at hp
 rw [e] at hp
 simp [Value.ownBlock] at hp
 subst hp
 refine ⟨.inr ⟨_,_,cO⟩,q1,q2,?_⟩
 rintro rfl
 rw [hg] at cO
 injection cO with cO
 injection cO with _ h5 _
 exact absurd h5 De
theorem ziy {S':Nat->Prop} (h:zU w B g sv S L) (hc:Chg S' w w') (h1:∀ k,S' k->k<w.heap.size->¬ S k/\k≠g) (h2:∀ v A,zC w v A->zC w' v A):zU w' B g sv S L:=by
 have aj:=fun k hk=>(zap h k hk).2.2.1
 obtain ⟨eb,bb,fe,F,nb,rfl,hg,⟨gR,gb,aH,je⟩,k1,k2,k3,k4⟩:=h
 have hn:∀ k,trS eb bb F k->¬ S' k:=fun k hk hS=>(h1 k hS (aj k hk)).1 hk
 refine ⟨eb,bb,fe,F,nb,rfl,zV hg hc (fun hS=>(h1 g hS (zi hg)).2 rfl),⟨gR,gb,aH,Nat.le_trans je hc.size⟩,zcR k1 hc (hn _ (.inl rfl)),?_,zcR k3 hc (hn _ (.inr (.inl rfl))),?_⟩
 ·intro s
  refine ⟨(k2 s).1,fun e he=>?_⟩
  obtain ⟨v,q1,q2⟩:=(k2 s).2 e he
  exact ⟨v,q1,h2 _ _ q2⟩
 intro p
 obtain ⟨q1,q2,q3⟩:=k4 p
 exact ⟨q1,zz q2 hc (fun k hk=>hn k (.inr (.inr ⟨p,hk⟩))),q3⟩
theorem zeo (h:zU w B g sv S L) (hc:Below w.heap.size w w'):zU w' B g sv S L :=
 ziy h (Chg.ofBelow (S:=fun _=>False) hc) (fun _ h=>h.elim) (fun v A hp=>zcn hp hc)
theorem zmg (h:zU w B g sv S L):∃ eb bb,w.heap[g]?=some (.cells #[sv,.map (some eb),.map (some bb)] 62 (0,0)):=by
 obtain ⟨eb,bb,fe,F,nb,_,hg,_⟩:=h
 exact ⟨eb,bb,hg⟩
theorem ztu (h:zU w B g sv S L):g<w.heap.size:=by
 obtain ⟨eb,bb,hg⟩:=zmg h
 exact zi hg
theorem zep (h:zcx w f L) (s:Bs):(f s).isSome=zt L s:=by
 rw [<- ziQ]
 cases hq:lkE L s with
 | none=>rw [(h s).1 hq];rfl
 | some e =>
  obtain ⟨v,h1,_⟩:=(h s).2 e hq
  rw [h1];rfl
def zbT (c:Nat) (B g:Nat) (sv:Value) (S:Nat->Prop) (L:List Ent) (w:World) (en:Ending) (w':World):Prop :=
 en=.returned (.int .i64 (c:Nat))/\∃ S',zU w' B g sv S' L/\Chg S w w'/\∀ k,S' k->S k\/w.heap.size<=k
theorem ziz {c d:Nat} (wJ:c=d) (h:zU w B g sv S L) (hb:Below w.heap.size w w'):zbT c B g sv S L w (.returned (.int .i64 (d:Nat))) w':=by
 subst wJ
 exact ⟨rfl,S,zeo h hb,Chg.ofBelow hb,fun k hk=>.inl hk⟩
end Go.Proofs.YtijglbolppkefaaGreatDoor
namespace Go.Proofs.YtijglbolppkefaaGreatDoor
open Go.Proofs.Tryz
open Go Go.RowKit Go.Proofs.BerK Go.Proofs.MemK Go.Proofs.UtfK Go.Maps Go.WideMaps
variable {K : List Av}
theorem zmh (w:World):(zeroValue 39).run prog w=.ok (.agg #[.string ⟨#[]⟩,.slice none 0 0]) w:=by kernel_rfl
theorem ziA (w:World):(zeroValue 76).run prog w=.ok (.slice none 0 0) w:=by kernel_rfl
theorem ztv {w:World} {f:Bs->Option Value} {L:List Ent} (h:zcx w f L) (s:Bs):∃ (d:Bs) (a:Option Addr) (n c:Nat),(f s).getD (.agg #[.string ⟨#[]⟩,.slice none 0 0])=.agg #[.string ⟨d.toArray⟩,.slice a n c]:=by
 cases hq:lkE L s with
 | none=>rw [(h s).1 hq];exact ⟨[],none,0,0,rfl⟩
 | some e =>
  obtain ⟨v,h1,h2⟩:=(h s).2 e hq
  obtain ⟨Lq,B,h3,h4⟩:=h2
  obtain ⟨a,c,rfl⟩:=zh h4
  rw [h1]
  exact ⟨e.1,a,_,c,rfl⟩
theorem zgd (B g:Nat) (sv:Value) (S:Nat->Prop) (L:List Ent) (s:Bs) (w:World) (h:zU w B g sv S L) (hs:s.length<=140737488355328) :
  Calls prog 34 #[.pointer (some ⟨g,0,none⟩),.string ⟨s.toArray⟩] w (BB (zt L s) w):=by
 obtain ⟨eb,bb,fe,F,nb,rfl,hg,_,h1,h2,_⟩:=h
 obtain ⟨c0,c1,c2⟩:=ze hg
 have aV:=zmc h1 underlying59 (zmh w) s hs
 obtain ⟨d,a,n,c,hd⟩:=ztv h2 s
 rw [hd,zep h2] at aV
 obtain ⟨b,hb⟩:=Ex (zt L s)
 rw [hb] at aV ⊢
 clear h1 h2 hd hb hg c0 c2
 go_enter func34,ntmps34
 go_wp2
 go_ret
 exact zB rfl ((Br _).alloc Lr _)
def zmi (n:Nat) (w:World) (en:Ending) (w':World):Prop:=en=.returned (.int .i64 (n:Nat))/\w=w'
theorem zge (B g:Nat) (sv:Value) (S:Nat->Prop) (L:List Ent) (w:World) (h:zU w B g sv S L) :
  Calls prog 18 #[.pointer (some ⟨g,0,none⟩)] w (zmi L.length w):=by
 obtain ⟨eb,bb,fe,F,nb,rfl,hg,_,h1,h2,_⟩:=h
 obtain ⟨c0,c1,c2⟩:=ze hg
 have aV:=ziw h1 underlying59 3
 obtain ⟨n,hn⟩:=Ex L.length
 rw [hn] at aV ⊢
 clear h1 h2 hg c0 c2 hn
 go_enter func18,ntmps18
 go_wp2
 go_ret
 exact ⟨rfl,rfl⟩
theorem ztw (w:World) (sv:Value):zU (((w.alloc (.map #[] 0)).alloc (.map #[] 0)).alloc (.cells #[sv,.map (some w.heap.size),.map (some (w.heap.size+1))] 62)) w.heap.size (w.heap.size+2) sv (trS w.heap.size (w.heap.size+1) (fun _=>.slice none 0 0)) []:=by
 have m1:=zma w
 have m2:=zma (w.alloc (.map #[] 0))
 rw [World.size_alloc] at m2
 have b1:Below (w.alloc (.map #[] 0)).heap.size (w.alloc (.map #[] 0)) ((w.alloc (.map #[] 0)).alloc (.map #[] 0)):=(Br _).alloc Lr _
 have b2:Below ((w.alloc (.map #[] 0)).alloc (.map #[] 0)).heap.size ((w.alloc (.map #[] 0)).alloc (.map #[] 0)) (((w.alloc (.map #[] 0)).alloc (.map #[] 0)).alloc (.cells #[sv,.map (some w.heap.size),.map (some (w.heap.size+1))] 62)):=(Br _).alloc Lr _
 refine ⟨w.heap.size,w.heap.size+1,fun _=>none,fun _=>.slice none 0 0,0,rfl,?_,⟨Nat.le_refl _,by omega,by omega,by simp;omega⟩,?_,fun s=>⟨fun _=>rfl,fun e he=>by simp [lkE] at he⟩,?_,fun p=>⟨fun _=>rfl,World.ownsRow_nil _ _ _ _,fun q _=>znN _⟩⟩
 ·have:=heap_alloc_new ((w.alloc (.map #[] 0)).alloc (.map #[] 0)) (.cells #[sv,.map (some w.heap.size),.map (some (w.heap.size+1))] 62)
  rw [World.size_alloc,World.size_alloc] at this
  exact this
 ·exact za6 (za6 m1 (b1.block _ Sm)) (b2.block _ So)
 exact za6 m2 (b2.block _ Sm)
def ztx (sv:Value) (w:World) (en:Ending) (w':World):Prop:=∃ g S,en=.returned (.pointer (some ⟨g,0,none⟩))/\zU w' w.heap.size g sv S []/\(∀ k,S k->w.heap.size<=k)/\w.heap.size<=g/\Below w.heap.size w w'/\∀ k,S k->∃ es c,w'.heap[k]?=some (.map es c)
theorem zgf (o:Option Addr) (w:World):Calls prog 6 #[.pointer o] w (ztx (.pointer o) w):=by
 have HT:=Hy (ztw w (.pointer o))
 have ct:=@run_makeMap prog
 go_enter func6,ntmps6
 go_wp2
 go_ret
 have h:=HT.o
 refine ⟨_,_,rfl,h,fun k hk=>?_,by omega,(((Br _).alloc Lr _).alloc Sm _).alloc So _,fun k hk=>?_⟩
 ·exact (zap h k hk).2.1
 rcases hk with rfl | rfl | ⟨p,hp⟩
 ·obtain ⟨eb,bb,fe,F,nb,hS,_⟩:=h
  have b1:Below (w.alloc (.map #[] 0)).heap.size (w.alloc (.map #[] 0)) ((w.alloc (.map #[] 0)).alloc (.map #[] 0)):=(Br _).alloc Lr _
  have b2:Below ((w.alloc (.map #[] 0)).alloc (.map #[] 0)).heap.size ((w.alloc (.map #[] 0)).alloc (.map #[] 0)) (((w.alloc (.map #[] 0)).alloc (.map #[] 0)).alloc (.cells #[.pointer o,.map (some w.heap.size),.map (some (w.heap.size+1))] 62)):=(Br _).alloc Lr _
  refine ⟨#[],0,?_⟩
  rw [b2.block _ So,b1.block _ Sm]
  exact heap_alloc_new w _
 ·have b2:Below ((w.alloc (.map #[] 0)).alloc (.map #[] 0)).heap.size ((w.alloc (.map #[] 0)).alloc (.map #[] 0)) (((w.alloc (.map #[] 0)).alloc (.map #[] 0)).alloc (.cells #[.pointer o,.map (some w.heap.size),.map (some (w.heap.size+1))] 62)):=(Br _).alloc Lr _
  refine ⟨#[],0,?_⟩
  rw [b2.block _ Sm]
  have:=heap_alloc_new (w.alloc (.map #[] 0)) (.map #[] 0)
  rw [World.size_alloc] at this
  exact this
 simp [Value.ownBlock] at hp
def zty (a b:Bs) (w:World) (en:Ending) (w':World):Prop:=∃ n:Int,en=.returned (.int .i64 n)/\(n<0 ↔ ltB a b=true)/\Below w.heap.size w w'
theorem zmj (l m t:Bs) (w:World):Calls prog 61 #[.agg #[.string ⟨l.toArray⟩,.string ⟨m.toArray⟩],.string ⟨t.toArray⟩] w (zty l t w):=by
 have cK:=fun W'=>Any.strings_Compare Tryz.strCmp ⟨l.toArray⟩ ⟨t.toArray⟩ W'
 change ∀ W',Calls prog 62 #[.string ⟨l.toArray⟩,.string ⟨t.toArray⟩] W' (fun e w'=>e=.returned (.int .i64 (Lib.compareBytes l t))/\w'=W') at cK
 have aj:=znf l t
 generalize Lib.compareBytes l t=r at cK aj
 have HC:=Hy cK
 have HL:=Hy aj
 clear cK aj
 go_enter func61,ntmps61
 go_wp2_with (go_at_call 62;refine (HC.o _).mono ?_;rintro e w' ⟨rfl,rfl⟩)
 go_ret
 exact ⟨r,rfl,HL.o.trans zng.symm,(Br _).alloc Lr _⟩
def zgh (K:List Av) (t:Bs) (i:Nat):Prop:=∀ j (hj:j<K.length),j<i->ltB K[j].1 t=true
def zgi (K:List Av) (t:Bs) (i:Nat):Prop:=∀ j (hj:j<K.length),i<=j->ltB K[j].1 t=false
theorem ztz (mK:K.Pairwise (fun a b=>ltB a.1 b.1=true)) {t:Bs} {h:Nat} (hh:h<K.length) (aj:ltB K[h].1 t=true):zgh K t (h+1):=by
 intro j hj hjh
 by_cases e:j=h
 ·subst e;exact aj
 exact zgW (List.pairwise_iff_getElem.1 mK j h hj hh Om) aj
theorem ztA (mK:K.Pairwise (fun a b=>ltB a.1 b.1=true)) {t:Bs} {h:Nat} (hh:h<K.length) (aj:ltB K[h].1 t=false):zgi K t h:=by
 intro j hj hjh
 by_cases e:h=j
 ·subst e;exact aj
 cases hq:ltB K[j].1 t
 ·rfl
 have:=zgW (List.pairwise_iff_getElem.1 mK h j hh hj Om) hq
 rw [aj] at this;cases this
def ztB (K:List Av) (t:Bs) (w:World) (en:Ending) (w':World):Prop:=∃ (i:Nat) (b:Bool),en=.returned (.tuple #[.int .i64 (i:Nat),.bool b])/\i<=K.length/\zgh K t i/\zgi K t i/\Below w.heap.size w w'
theorem ztC (K:List Av) (t:Bs) (v:Value) (B:Nat) (w:World) (hr:w.ownsRow B 79 2 v K.length (avc K)) (mK:K.Pairwise (fun a b=>ltB a.1 b.1=true)) (hl:K.length<=1000000) :
  Calls prog 60 #[v,.string ⟨t.toArray⟩,.func (.func 61) #[] #[]] w (ztB K t w):=by
 obtain ⟨va,vc,rfl⟩:=zh hr
 have HR:=Hy hr
 have HU:=Hy mK
 obtain ⟨n,hn⟩:=Ex K.length
 have HL:=Hy hn
 rw [hn] at hl ⊢
 clear hr mK hn
 have ae:∀ wr,Below w.heap.size w wr->∀ i (hi:i<K.length),∃ g,va=some ⟨g,0,none⟩/\wr.cell? ⟨g,i*2,none⟩=some (.string ⟨K[i].1.toArray⟩)/\wr.cell? ⟨g,i*2+1,none⟩=some (.string ⟨K[i].2.toArray⟩):=by
  intro wr hb i hi
  have hr:=HR.o
  rcases hr.2 with ⟨e,h0⟩ | ⟨g,cap,cur,e,_,hg,_⟩
  ·omega
  injection e with e1 e2 e3
  subst e1
  obtain ⟨h1,h2⟩:=zbO K i hi
  have bZ:=zi hg
  exact ⟨g,rfl,(hb.cell (p:=⟨g,i*2,none⟩) bZ).trans ((hr.cellAt _ Om).trans h1),(hb.cell (p:=⟨g,i*2+1,none⟩) bZ).trans ((hr.cellAt _ Om).trans h2)⟩
 have Eu:=Hy ae
 clear ae
 go_enter func60,ntmps60
 go_wp2
 go_loopw [9,10] (fun vi vj wr=>∃ i j:Nat,vi=.int .i64 (i:Nat)/\vj=.int .i64 (j:Nat)/\i<=j/\j<=n/\zgh K t i/\zgi K t j/\Below w.heap.size w wr) (fun vi vj _=>(intOf vj).toNat - (intOf vi).toNat)
 case atStart=>exact ⟨0,n,rfl,rfl,by omega,Nat.le_refl _,fun j hj h=>by omega,fun j hj h=>by have:=HL.o;omega,Br _⟩
 case round =>
  obtain ⟨i,j,rfl,rfl,oA,p5,kI,oB,hb⟩:=hrel
  by_cases aj:i<j
  ·have bh:(i:Int)<(j:Int):=by omega
   have gN:i<=(i+j)/2/\(i+j)/2<j:=by omega
   have GY:(i+j)/2<K.length:=by rw [HL.o];omega
   have hhn:((i:Int)+(j:Int))/2<(n:Int):=by omega
   obtain ⟨g,rfl,c0,c1⟩:=Eu.o wr hb ((i+j)/2) GY
   have qS:=ztz HU.o (t:=t) GY
   have qU:=ztA HU.o (t:=t) GY
   obtain ⟨⟨l,m⟩,oC⟩:∃ c,K[(i+j)/2]=c:=⟨_,rfl⟩
   rw [oC] at c0 c1 qS qU
   dsimp only at c0 c1 qS qU
   have HC:=Hy (zmj l m t wr)
   have H:=Hy (An kI (An oB (An hb (An qS (An qU gN)))))
   clear kI oB hb oC qS qU
   go_wp2_with fail
   refine HC.o.mono ?_
   rintro e w5 ⟨q,rfl,hq,ai⟩
   have H5:=Hy (An hq (H.o.2.2.1.trans (ai.mono H.o.2.2.1.size)))
   clear ai hq c0 c1
   by_cases wK:q<0
   ·have HN:=Hy (H.o.2.2.2.1 (H5.o.1.1 wK))
    go_wp2
    exact ⟨⟨(i+j)/2+1,j,by go_num,rfl,by omega,p5,HN.o,H.o.2.1,H5.o.2⟩,by simp [intOf];omega⟩
   have HN:=Hy (H.o.2.2.2.2.1 (by
    cases hx:ltB l t
    ·rfl
    exact absurd (H5.o.1.2 hx) wK))
   go_wp2
   exact ⟨⟨i,(i+j)/2,rfl,by go_num,by omega,by omega,H.o.1,HN.o,H5.o.2⟩,by simp [intOf];omega⟩
  obtain rfl:i=j:=by omega
  by_cases cz:i<n
  ·have cW:(i:Int)<(n:Int):=by omega
   have Bo:i<K.length:=by rw [HL.o];exact cz
   obtain ⟨g,rfl,c0,c1⟩:=Eu.o wr hb i Bo
   obtain ⟨⟨l,m⟩,oC⟩:∃ c,K[i]=c:=⟨_,rfl⟩
   rw [oC] at c0 c1
   dsimp only at c0 c1
   have HC:=Hy (zmj l m t wr)
   have H:=Hy (An kI (An oB hb))
   clear kI oB hb oC
   go_wp2_with fail
   refine HC.o.mono ?_
   rintro e w5 ⟨q,rfl,hq,ai⟩
   have H5:=Hy (H.o.2.2.trans (ai.mono H.o.2.2.size))
   clear ai hq c0 c1
   obtain ⟨b,hb⟩:=Ex (q==0)
   cases b
   ·exact zl8
   exact zl8
  have cW:¬ (i:Int)<(n:Int):=by omega
  have H:=Hy (An kI (An oB hb))
  clear kI oB hb
  go_wp2
  go_ret2
  exact ⟨i,_,rfl,by rw [HL.o];omega,H.o.1,H.o.2.1,H.o.2.2⟩
end Go.Proofs.YtijglbolppkefaaGreatDoor

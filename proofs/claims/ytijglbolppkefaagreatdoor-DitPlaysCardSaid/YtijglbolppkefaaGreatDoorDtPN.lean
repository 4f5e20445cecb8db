/- Plain facts on trees of names. -/
import Derived.Test.YtijglbolppkefaaGreatDoorMLayw
import Derived.Test.YtijglbolppkefaaGreatDoorMPlMN
import Derived.Test.YtijglbolppkefaaGreatDoorMPlEF
import Derived.Test.YtijglbolppkefaaGreatDoorMDqJ
import Derived.Test.YtijglbolppkefaaGreatDoorSnNT
import Derived.Test.YtijglbolppkefaaGreatDoorMEnAB
set_option linter.unusedVariables false
set_option linter.unusedSimpArgs false
set_option maxHeartbeats 25600000
set_option maxRecDepth 100000
namespace Go.Proofs.YtijglbolppkefaaGreatDoor
open Go Go.Proofs.BerK
abbrev Pa:=List (Bs)
def ltP:Pa->Pa->Bool
 | [],[]=>false
 | [],_ :: _=>true
 | _ :: _,[]=>false
 | p :: x,q :: y=>if p=q then ltP x y else ltB p q
theorem zer:∀ x:Pa,ltP x x=false
 | []=>rfl
 | p :: x=>by rw [ltP,if_pos rfl];exact zer x
theorem zgq:∀ {x y z:Pa},ltP x y=true->ltP y z=true->ltP x z=true
 | [],[],_,h,_=>by simp [ltP] at h
 | [],_ :: _,[],_,h=>by simp [ltP] at h
 | [],_ :: _,_ :: _,_,_=>rfl
 | _ :: _,[],_,h,_=>by simp [ltP] at h
 | _ :: _,_ :: _,[],_,h=>by simp [ltP] at h
 | p :: x,q :: y,r :: z,h,k=>by
  rw [ltP] at h k ⊢
  by_cases h1:p=q
  ·subst h1
   rw [if_pos rfl] at h
   by_cases h2:p=r
   ·rw [if_pos h2] at k ⊢;exact zgq h k
   rw [if_neg h2] at k ⊢;exact k
  rw [if_neg h1] at h
  by_cases h2:q=r
  ·subst h2
   rw [if_neg h1];exact h
  rw [if_neg h2] at k
  have hb:=zgW h k
  have h3:p≠r:=by rintro rfl;rw [zgV] at hb;cases hb
  rw [if_neg h3];exact hb
theorem zmK:∀ (x y:Pa),x≠y->ltP x y=true\/ltP y x=true
 | [],[],h=>absurd rfl h
 | [],_ :: _,_=>.inl rfl
 | _ :: _,[],_=>.inr rfl
 | p :: x,q :: y,h=>by
  by_cases h1:p=q
  ·subst h1
   rw [ltP,ltP,if_pos rfl,if_pos rfl]
   exact zmK x y (fun e=>h (by rw [e]))
  rw [ltP,ltP,if_neg h1,if_neg (Ne.symm h1)]
  exact zxL p q h1
theorem zuj {x y:Pa} (h:ltP x y=true):ltP y x=false:=by
 cases h2:ltP y x
 ·rfl
 have:=zgq h h2
 rw [zer] at this;cases this
theorem zgs (q:Pa):∀ (x y:Pa),ltP (q++x) (q++y)=ltP x y:=by
 intro x y
 induction q with
 | nil=>rfl
 | cons p q ih=>rw [List.cons_append,List.cons_append,ltP,if_pos rfl];exact ih
theorem zmL (q:Pa) (a:Bs) (r:Pa):ltP q (q++a :: r)=true:=by
 have:=zgs q [] (a :: r)
 rw [List.append_nil] at this
 rw [this];rfl
theorem zmM (q:Pa) (a b:Bs):ltP (q++[a]) (q++[b])=ltB a b:=by
 rw [zgs,ltP]
 split
 ·rename_i h;subst h;rw [zgV];rfl
 rfl
theorem zuk (q:Pa) {a b:Bs} (h:ltB a b=true) (u v:Pa):ltP (q++[a]++u) (q++[b]++v)=true:=by
 rw [List.append_assoc,List.append_assoc,zgs]
 show ltP (a :: u) (b :: v)=true
 have aH:a≠b:=by rintro rfl;rw [zgV] at h;cases h
 rw [ltP,if_neg aH];exact h
theorem ziH:∀ {A B:List Pa},A.Pairwise (fun x y=>ltP x y=true)->B.Pairwise (fun x y=>ltP x y=true)->(∀ x,x∈A ↔ x∈B)->A=B
 | [],[],_,_,_=>rfl
 | [],b :: B,_,_,h=>by have:=(h b).2 Sm;simp at this
 | a :: A,[],_,_,h=>by have:=(h a).1 Sm;simp at this
 | a :: A,b :: B,h1,h2,h=>by
  obtain ⟨p1,p2⟩:=List.pairwise_cons.1 h1
  obtain ⟨q1,q2⟩:=List.pairwise_cons.1 h2
  have e:a=b:=by
   rcases List.mem_cons.1 ((h a).1 Sm) with e | e
   ·exact e
   rcases List.mem_cons.1 ((h b).2 Sm) with e2 | e2
   ·exact e2.symm
   have:=zgq (p1 _ e2) (q1 _ e)
   rw [zer] at this;cases this
  subst e
  rw [ziH p2 q2 (fun x=>?_)]
  constructor
  ·intro hx
   rcases List.mem_cons.1 ((h x).1 (List.mem_cons_of_mem _ hx)) with e | e
   ·subst e
    have:=p1 _ hx;rw [zer] at this;cases this
   exact e
  intro hx
  rcases List.mem_cons.1 ((h x).2 (List.mem_cons_of_mem _ hx)) with e | e
  ·subst e
   have:=q1 _ hx;rw [zer] at this;cases this
  exact e
def zfn (P:List Pa) (q:Pa):List Pa:=P.filter fun x=>decide (x≠[]/\x.dropLast=q)
def zcl:Nat->List Pa->Pa->List Pa
 | 0,_,_=>[]
 | n+1,P,q=>(zfn P q).flatMap fun x=>x :: zcl n P x
theorem zfo {P:List Pa} {q x:Pa}:x∈zfn P q ↔ x∈P/\∃ a,x=q++[a]:=by
 unfold zfn
 rw [List.mem_filter,decide_eq_true_eq]
 constructor
 ·rintro ⟨h1,h2,h3⟩
  exact ⟨h1,x.getLast h2,by rw [<- h3,List.dropLast_concat_getLast]⟩
 rintro ⟨h1,a,rfl⟩
 exact ⟨h1,by simp,by simp⟩
structure zes (P:List Pa):Prop where
 up:P.Pairwise (fun x y=>ltP x y=true)
 ne:∀ x∈P,x≠[]
 above:∀ x∈P,x.dropLast=[]\/x.dropLast∈P
 deep:∀ x∈P,x.length<=32
theorem zes.closed {P:List Pa} (h:zes P):∀ (n:Nat) (x:Pa) (u:Pa),u.length<=n->x++u∈P->x≠[]->x∈P:=by
 intro n
 induction n with
 | zero =>
  intro x u hu hx aH
  obtain rfl:u=[]:=List.eq_nil_of_length_eq_zero Om
  simpa using hx
 | succ n ih =>
  intro x u hu hx aH
  by_cases h0:u=[]
  ·subst h0;simpa using hx
  have hd:(x++u).dropLast=x++u.dropLast:=by rw [List.dropLast_append_of_ne_nil h0]
  have:=h.above _ hx
  rw [hd] at this
  rcases this with h1 | h1
  ·simp at h1;exact absurd h1.1 aH
  exact ih x u.dropLast (by rw [List.length_dropLast];omega) h1 aH
theorem zul {P:List Pa} (h:zes P):∀ (n:Nat) (q x:Pa),32<=q.length+n->(x∈zcl n P q ↔ x∈P/\∃ a r,x=q++a :: r):=by
 intro n
 induction n with
 | zero =>
  intro q x hn
  rw [zcl]
  constructor
  ·intro h;simp at h
  rintro ⟨h1,a,r,rfl⟩
  have:=h.deep _ h1
  simp at this;omega
 | succ n ih =>
  intro q x hn
  rw [zcl,List.mem_flatMap]
  constructor
  ·rintro ⟨c,hc,hx⟩
   obtain ⟨hcP,a,rfl⟩:=zfo.1 hc
   rcases List.mem_cons.1 hx with rfl | hx
   ·exact ⟨hcP,a,[],rfl⟩
   obtain ⟨h1,b,r,rfl⟩:=(ih _ _ So).1 hx
   exact ⟨h1,a,b :: r,by simp⟩
  rintro ⟨h1,a,r,rfl⟩
  have hc:q++[a]∈P:=h.closed r.length (q++[a]) r Lr (by simpa using h1) Sm
  refine ⟨q++[a],zfo.2 ⟨hc,a,rfl⟩,?_⟩
  cases r with
  | nil=>simp
  | cons b r=>exact List.mem_cons_of_mem _ ((ih _ _ So).2 ⟨h1,b,r,by simp⟩)
theorem ziI {P:List Pa}:∀ (n:Nat) (q x:Pa),x∈zcl n P q->∃ a r,x=q++a :: r:=by
 intro n
 induction n with
 | zero=>intro q x h;simp [zcl] at h
 | succ n ih =>
  intro q x h
  rw [zcl,List.mem_flatMap] at h
  obtain ⟨c,hc,hx⟩:=h
  obtain ⟨_,a,rfl⟩:=zfo.1 hc
  rcases List.mem_cons.1 hx with rfl | hx
  ·exact ⟨a,[],rfl⟩
  obtain ⟨b,r,rfl⟩:=ih _ _ hx
  exact ⟨a,b :: r,by simp⟩
theorem zum {P:List Pa} (h:zes P):∀ (n:Nat) (q:Pa),(zcl n P q).Pairwise (fun x y=>ltP x y=true):=by
 intro n
 induction n with
 | zero=>intro q;exact .nil
 | succ n ih =>
  intro q
  rw [zcl,List.flatMap,List.pairwise_flatten]
  constructor
  ·intro l hl
   obtain ⟨c,hc,rfl⟩:=List.mem_map.1 hl
   refine List.pairwise_cons.2 ⟨fun y hy=>?_,ih c⟩
   obtain ⟨a,r,rfl⟩:=ziI _ _ _ hy
   exact zmL _ _ _
  rw [List.pairwise_map]
  refine List.Pairwise.imp_of_mem ?_ (h.up.filter _)
  intro c d hc hd wJ x hx y hy
  obtain ⟨_,a,rfl⟩:=zfo.1 hc
  obtain ⟨_,b,rfl⟩:=zfo.1 hd
  rw [zmM] at wJ
  have ex:∃ u,x=q++[a]++u:=by
   rcases List.mem_cons.1 hx with rfl | hx
   ·exact ⟨[],by simp⟩
   obtain ⟨a2,r,rfl⟩:=ziI _ _ _ hx;exact ⟨_,rfl⟩
  have ey:∃ v,y=q++[b]++v:=by
   rcases List.mem_cons.1 hy with rfl | hy
   ·exact ⟨[],by simp⟩
   obtain ⟨a2,r,rfl⟩:=ziI _ _ _ hy;exact ⟨_,rfl⟩
  obtain ⟨u,rfl⟩:=ex
  obtain ⟨v,rfl⟩:=ey
  exact zuk q wJ u v
def zgt (q x:Pa):Bool:=q.isPrefixOf x && decide (x≠q)
theorem ziJ {q x:Pa}:zgt q x=true ↔ ∃ a r,x=q++a :: r:=by
 unfold zgt
 rw [Bool.and_eq_true,List.isPrefixOf_iff_prefix,decide_eq_true_eq]
 constructor
 ·rintro ⟨⟨u,rfl⟩,h2⟩
  cases u with
  | nil=>simp at h2
  | cons a r=>exact ⟨a,r,rfl⟩
 rintro ⟨a,r,rfl⟩
 exact ⟨⟨_,rfl⟩,by simp⟩
theorem zun {P:List Pa} (h:zes P) (n:Nat) (q:Pa) (hn:32<=q.length+n):zcl n P q=P.filter (zgt q):=by
 refine ziH (zum h n q) (h.up.filter _) (fun x=>?_)
 rw [zul h n q x hn,List.mem_filter,ziJ]
end Go.Proofs.YtijglbolppkefaaGreatDoor
namespace Go.Proofs.YtijglbolppkefaaGreatDoor
open Go Go.RowKit Go.Proofs.BerK Go.Proofs.MemK Go.Proofs.UtfK
variable {a b p s : Bs} {D E : List (List Av)}
abbrev Ent:=Bs × List Atr
def paL (s:Bs):Pa:=((psO s).getD []).reverse
theorem zcS (h:nrD s=some D):paL s=(D.map ptL).reverse:=by
 unfold paL psO;rw [h];rfl
theorem zfp:nrD []=some []:=by have:=zeT zzf;rwa [zj2] at this
theorem ziK:paL []=[]:=by rw [zcS zfp];rfl
theorem zuo {r q:List Av} (h1:GD [r]) (h2:GD [q]) (h:ptL r=ptL q):r=q:=by
 have:=zj1 h1 h2 (by rw [zj4,zj4,h])
 simpa using this
theorem ziL:∀ {D E:List (List Av)},GD D->GD E->D.map ptL=E.map ptL->D=E
 | [],[],_,_,_=>rfl
 | [],_ :: _,_,_,h=>by simp at h
 | _ :: _,[],_,_,h=>by simp at h
 | r :: D,q :: E,h1,h2,h=>by
  rw [List.map_cons,List.map_cons,List.cons.injEq] at h
  obtain ⟨a1,a2⟩:=zeU h1
  obtain ⟨b1,b2⟩:=zeU h2
  rw [zuo a1 b1 h.1,ziL a2 b2 h.2]
theorem zfq {t:Bs} (h1:nrD s=some D) (h2:nrD t=some E) (h:paL s=paL t):s=t:=by
 rw [zcS h1,zcS h2] at h
 have h:=List.reverse_inj.1 h
 have:=ziL (zaA h1).2 (zaA h2).2 h
 rw [(zaA h1).1,(zaA h2).1,this]
def Nm (s:Bs):Prop:=∃ r D,nrD s=some (r :: D)
theorem zbP (h:Nm s):∃ D,nrD s=some D:=by obtain ⟨r,D,h⟩:=h;exact ⟨_,h⟩
theorem zmN:¬ Nm []:=by rintro ⟨r,D,h⟩;rw [zfp] at h;cases h
theorem zcA (h:Nm s):∃ p l,zw s=(p,true)/\zbY s=(l,true)/\paL s=paL p++[l]/\∃ D,nrD p=some D:=by
 obtain ⟨r,D,h⟩:=h
 have hg:=(zeU (zaA h).2).2
 refine ⟨nmL D,ptL r,zhp h,zeV h,?_,D,zeT hg⟩
 rw [zcS h,zcS (zeT hg)];simp
theorem zup (h:Nm s):paL s≠[]:=by
 obtain ⟨p,l,_,_,e,_⟩:=zcA h
 rw [e];simp
theorem zmO (h:Nm s):(paL s).length<=32:=by
 obtain ⟨D,h⟩:=zbP h
 rw [zcS h];simpa using (zaA h).2.1
theorem ziM (h1:nrD s=some D) (h2:nrD b=some E):zbq s b=true ↔ ∃ u,paL s=paL b++u:=by
 constructor
 ·intro h
  obtain ⟨P,E',a1,a2⟩:=zj5 h
  rw [h2] at a2
  obtain rfl:=Option.some.inj a2
  exact ⟨(P.map ptL).reverse,by rw [zcS a1,zcS h2];simp⟩
 rintro ⟨u,hu⟩
 rw [zcS h1,zcS h2] at hu
 have hu:D.map ptL=u.reverse++E.map ptL:=by
  have:=congrArg List.reverse hu
  simpa using this
 have hl:E.length<=D.length:=by have:=congrArg List.length hu;simp at this;omega
 have e:D=D.take (D.length - E.length)++D.drop (D.length - E.length):=(List.take_append_drop _ _).symm
 have hd:(D.drop (D.length - E.length)).map ptL=E.map ptL:=by
  rw [List.map_drop,hu]
  have:(u.reverse:List (Bs)).length=D.length - E.length:=by have:=congrArg List.length hu;simp at this ⊢;omega
  rw [<- this,List.drop_left]
 have hg:=(zaA h1).2
 rw [e] at hg
 have hE:=ziL (zfN hg).2 (zaA h2).2 hd
 rw [hE] at e
 rw [e] at h1
 exact zpe h1 h2
theorem zmP (h:nrD s=some D):zbq s []=true:=(ziM h zfp).2 ⟨paL s,by rw [ziK];rfl⟩
theorem zuq (h:nrD s=some D):zbq s s=true:=(ziM h h).2 ⟨[],by simp⟩
def bfN (a b:Bs):Bool:=ltP (paL a) (paL b)
structure TrL (L:List Ent):Prop where
 up:L.Pairwise (fun a b=>bfN a.1 b.1=true)
 nm:∀ e∈L,Nm e.1
 above:∀ e∈L,(zw e.1).1=[]\/∃ x∈L,x.1=(zw e.1).1
theorem ziN:TrL []:=⟨.nil,by simp,by simp⟩
theorem TrL.tree {L:List Ent} (h:TrL L):zes (L.map fun e=>paL e.1):=by
 refine ⟨?_,?_,?_,?_⟩
 ·rw [List.pairwise_map];exact h.up
 ·intro x hx
  obtain ⟨e,he,rfl⟩:=List.mem_map.1 hx
  exact zup (h.nm e he)
 ·intro x hx
  obtain ⟨e,he,rfl⟩:=List.mem_map.1 hx
  obtain ⟨p,l,h1,h2,h3,_⟩:=zcA (h.nm e he)
  have ha:=h.above e he
  rw [h1] at ha
  rw [h3,List.dropLast_concat]
  rcases ha with ha | ⟨x,hx,ha⟩
  ·left;simp only at ha;rw [ha,ziK]
  right
  simp only at ha
  exact List.mem_map.2 ⟨x,hx,by rw [ha]⟩
 intro x hx
 obtain ⟨e,he,rfl⟩:=List.mem_map.1 hx
 exact zmO (h.nm e he)
def zfr (p:Bs) (e:Ent):Bool:=decide (zw e.1=(p,true))
def zbj (e:Ent):Bs × Bs:=((zbY e.1).1,e.1)
def zk (L:List Ent) (p:Bs):List (Bs × Bs):=(L.filter (zfr p)).map zbj
def zat:Nat->List Ent->Bs->List (Bs)
 | 0,_,_=>[]
 | n+1,L,p=>(zk L p).flatMap fun c=>c.2 :: zat n L c.2
theorem zgu (n:Nat) (L:List Ent) (p:Bs):zat (n+1) L p=(zk L p).flatMap fun c=>c.2 :: zat n L c.2:=rfl
theorem zur {L:List Ent} (h:∀ e∈L,Nm e.1) {p:Bs} {D:List (List Av)} (hp:nrD p=some D):(zk L p).map (fun c=>paL c.2)=zfn (L.map fun e=>paL e.1) (paL p):=by
 unfold zk zfn
 rw [List.map_map,List.filter_map]
 show (L.filter (zfr p)).map (fun e=>paL e.1)=_
 congr 1
 refine List.filter_congr fun e he=>?_
 obtain ⟨q,l,h1,h2,h3,E,h4⟩:=zcA (h e he)
 unfold zfr
 simp only [Function.comp]
 rw [Bool.eq_iff_iff,decide_eq_true_eq,decide_eq_true_eq,h1,h3,List.dropLast_concat]
 constructor
 ·intro h5
  obtain ⟨rfl,_⟩:=Prod.mk.inj h5
  exact ⟨by simp,rfl⟩
 rintro ⟨_,h5⟩
 rw [zfq h4 hp h5]
theorem zus {L:List Ent} (h:∀ e∈L,Nm e.1):∀ (n:Nat) (p:Bs) (D:List (List Av)),nrD p=some D->(zat n L p).map paL=zcl n (L.map fun e=>paL e.1) (paL p):=by
 intro n
 induction n with
 | zero=>intro p D hp;rfl
 | succ n ih =>
  intro p D hp
  rw [zgu,zcl,<- zur h hp,List.map_flatMap,List.flatMap_map]
  unfold List.flatMap
  congr 1
  refine List.map_congr_left fun c hc=>?_
  obtain ⟨e,he,rfl⟩:=List.mem_map.1 hc
  have he:=(List.mem_filter.1 he).1
  obtain ⟨E,hE⟩:=zbP (h e he)
  show paL e.1 :: (zat n L e.1).map paL=_
  rw [ih e.1 E hE];rfl
theorem zut {L:List Ent}:∀ (n:Nat) (p s:Bs),s∈zat n L p->∃ e∈L,e.1=s:=by
 intro n
 induction n with
 | zero=>intro p s h;simp [zat] at h
 | succ n ih =>
  intro p s h
  rw [zgu,List.mem_flatMap] at h
  obtain ⟨c,hc,hs⟩:=h
  obtain ⟨e,he,rfl⟩:=List.mem_map.1 hc
  rcases List.mem_cons.1 hs with rfl | hs
  ·exact ⟨e,(List.mem_filter.1 he).1,rfl⟩
  exact ih _ _ hs
theorem ziO {α β:Type} {f:α->β}:∀ {A B:List α},(∀ x∈A,∀ y∈B,f x=f y->x=y)->A.map f=B.map f->A=B
 | [],[],_,_=>rfl
 | [],_ :: _,_,h=>by simp at h
 | _ :: _,[],_,h=>by simp at h
 | a :: A,b :: B,hi,h=>by
  rw [List.map_cons,List.map_cons,List.cons.injEq] at h
  rw [hi a Sm b Sm h.1,ziO (fun x hx y hy=>hi x (List.mem_cons_of_mem _ hx) y (List.mem_cons_of_mem _ hy)) h.2]
def zet (s p:Bs):Bool:=zbq s p && decide (s≠p)
theorem zmQ (h1:nrD s=some D) (h2:nrD p=some E):zet s p=zgt (paL p) (paL s):=by
 rw [Bool.eq_iff_iff,ziJ]
 unfold zet
 rw [Bool.and_eq_true,ziM h1 h2,decide_eq_true_eq]
 constructor
 ·rintro ⟨⟨u,hu⟩,aH⟩
  cases u with
  | nil=>exact absurd (zfq h1 h2 (by simpa using hu)) aH
  | cons a r=>exact ⟨a,r,hu⟩
 rintro ⟨a,r,h⟩
 refine ⟨⟨_,h⟩,?_⟩
 rintro rfl
 have:=congrArg List.length h
 simp at this
theorem zmR {L:List Ent} (h:TrL L) (n:Nat) (p:Bs) {D:List (List Av)} (hp:nrD p=some D) (hn:32<=(paL p).length+n):zat n L p=(L.map (·.1)).filter (fun s=>zet s p):=by
 refine ziO (f:=paL) (fun x hx y hy he=>?_) ?_
 ·obtain ⟨e,dK,rfl⟩:=zut _ _ _ hx
  obtain ⟨e2,kB,rfl⟩:=List.mem_map.1 (List.mem_filter.1 hy).1
  obtain ⟨E1,uw⟩:=zbP (h.nm e dK)
  obtain ⟨E2,BU⟩:=zbP (h.nm e2 kB)
  exact zfq uw BU he
 rw [zus h.nm n p D hp,zun h.tree n _ hn]
 rw [List.filter_map,List.filter_map,List.map_map]
 congr 1
 refine List.filter_congr fun e he=>?_
 obtain ⟨E,hE⟩:=zbP (h.nm e he)
 simp only [Function.comp]
 exact (zmQ hE hp).symm
def zcB (L:List Ent) (p:Bs):List (Bs):=(L.map (·.1)).filter (fun s=>zbq s p)
theorem zmS {L:List Ent} (h:TrL L):zcB L []=L.map (·.1)/\zat 32 L []=L.map (·.1):=by
 refine ⟨?_,?_⟩
 ·unfold zcB
  rw [List.filter_eq_self]
  intro s hs
  obtain ⟨e,he,rfl⟩:=List.mem_map.1 hs
  obtain ⟨E,hE⟩:=zbP (h.nm e he)
  exact zmP hE
 rw [zmR h 32 [] zfp (by rw [ziK];simp),List.filter_eq_self]
 intro s hs
 obtain ⟨e,he,rfl⟩:=List.mem_map.1 hs
 obtain ⟨E,hE⟩:=zbP (h.nm e he)
 unfold zet
 rw [zmP hE]
 have aH:e.1≠[]:=fun e2=>zmN (e2 ▸ h.nm e he)
 simp [aH]
theorem zmT {L:List Ent} (h:TrL L):(L.map (·.1)).Pairwise (fun a b=>bfN a b=true):=by rw [List.pairwise_map];exact h.up
theorem zmU {L:List Ent} (h:TrL L) {e:Ent} (he:e∈L) (n:Nat) (hn:32<=(paL e.1).length+n):zcB L e.1=e.1 :: zat n L e.1:=by
 obtain ⟨E,hE⟩:=zbP (h.nm e he)
 have inj:∀ x∈L.map (·.1),∀ y∈L.map (·.1),paL x=paL y->x=y:=by
  intro x hx y hy mO
  obtain ⟨e1,h1,rfl⟩:=List.mem_map.1 hx
  obtain ⟨e2,h2,rfl⟩:=List.mem_map.1 hy
  obtain ⟨E1,uw⟩:=zbP (h.nm e1 h1)
  obtain ⟨E2,BU⟩:=zbP (h.nm e2 h2)
  exact zfq uw BU mO
 rw [zmR h n e.1 hE hn]
 refine ziO (f:=paL) (fun x hx y hy kB=>?_) (ziH ?_ ?_ fun x=>?_)
 ·refine inj x (List.mem_filter.1 hx).1 y ?_ kB
  rcases List.mem_cons.1 hy with rfl | hy
  ·exact List.mem_map.2 ⟨e,he,rfl⟩
  exact (List.mem_filter.1 hy).1
 ·rw [List.pairwise_map];exact (zmT h).filter _
 ·rw [List.map_cons]
  refine List.pairwise_cons.2 ⟨fun y hy=>?_,by rw [List.pairwise_map];exact (zmT h).filter _⟩
  obtain ⟨s,hs,rfl⟩:=List.mem_map.1 hy
  obtain ⟨h1,h2⟩:=List.mem_filter.1 hs
  obtain ⟨e1,Hj,rfl⟩:=List.mem_map.1 h1
  obtain ⟨E1,uw⟩:=zbP (h.nm e1 Hj)
  rw [zmQ uw hE,ziJ] at h2
  obtain ⟨a,r,h2⟩:=h2
  rw [h2];exact zmL _ _ _
 rw [List.map_cons,List.mem_cons,List.mem_map,List.mem_map]
 constructor
 ·rintro ⟨s,hs,rfl⟩
  obtain ⟨h1,h2⟩:=List.mem_filter.1 hs
  by_cases e2:s=e.1
  ·left;rw [e2]
  right;exact ⟨s,List.mem_filter.2 ⟨h1,by unfold zet;rw [h2];simp [e2]⟩,rfl⟩
 rintro (rfl | ⟨s,hs,rfl⟩)
 ·exact ⟨e.1,List.mem_filter.2 ⟨List.mem_map.2 ⟨e,he,rfl⟩,zuq hE⟩,rfl⟩
 obtain ⟨h1,h2⟩:=List.mem_filter.1 hs
 unfold zet at h2
 rw [Bool.and_eq_true] at h2
 exact ⟨s,List.mem_filter.2 ⟨h1,h2.1⟩,rfl⟩
theorem zuu (h:bfN a b=true):bfN b a=false:=zuj h
theorem zfs (a:Bs):bfN a a=false:=zer _
theorem zmV {c:Bs} (h:bfN a b=true) (k:bfN b c=true):bfN a c=true:=zgq h k
theorem zmW (h1:Nm a) (h2:Nm b) (h:a≠b):bfN a b=true\/bfN b a=true:=by
 obtain ⟨D,hD⟩:=zbP h1
 obtain ⟨E,hE⟩:=zbP h2
 exact zmK _ _ (fun e=>h (zfq hD hE e))
def zF (e:Ent):List Ent->List Ent
 | []=>[e]
 | x :: L=>if x.1=e.1\/bfN e.1 x.1=true then e :: (x :: L).filter (fun y=>decide (y.1≠e.1)) else x :: zF e L
def puS (e:Ent) (s:List Ent × Bool) (x:Ent):List Ent × Bool :=
 let t:=if s.2=false/\(x.1=e.1\/bfN e.1 x.1=true) then (s.1++[e],true) else s
 if x.1=e.1 then t else (t.1++[x],t.2)
def puF (e:Ent) (s:List Ent × Bool):List Ent:=if s.2=true then s.1 else s.1++[e]
theorem zgv (e:Ent):∀ (L acc:List Ent),L.foldl (puS e) (acc,true)=(acc++L.filter (fun y=>decide (y.1≠e.1)),true)
 | [],acc=>by simp
 | x :: L,acc=>by
  rw [List.foldl_cons]
  unfold puS
  simp only [Bool.true_eq_false,false_and,if_false]
  by_cases h:x.1=e.1
  ·rw [if_pos h]
   rw [List.filter_cons_of_neg (by simp [h])]
   exact zgv e L acc
  rw [if_neg h]
  rw [List.filter_cons_of_pos (by simp [h])]
  have:=zgv e L (acc++[x])
  rw [List.append_assoc] at this
  exact this
theorem zmX (e:Ent):∀ (L acc:List Ent),puF e (L.foldl (puS e) (acc,false))=acc++zF e L
 | [],acc=>by simp [puF,zF]
 | x :: L,acc=>by
  rw [List.foldl_cons,zF]
  by_cases h1:x.1=e.1\/bfN e.1 x.1=true
  ·rw [if_pos h1]
   have e1:puS e (acc,false) x=if x.1=e.1 then (acc++[e],true) else (acc++[e]++[x],true):=by
    unfold puS;simp only [true_and];rw [if_pos h1]
   rw [e1]
   by_cases h2:x.1=e.1
   ·rw [if_pos h2,zgv,List.filter_cons_of_neg (by simp [h2])]
    simp [puF]
   rw [if_neg h2,zgv,List.filter_cons_of_pos (by simp [h2])]
   simp [puF]
  rw [if_neg h1]
  have h2:x.1≠e.1:=fun h=>h1 (.inl h)
  have e1:puS e (acc,false) x=(acc++[x],false):=by
   unfold puS;simp only [true_and];rw [if_neg h1,if_neg h2]
  rw [e1,zmX e L (acc++[x])]
  simp
theorem zdT (e:Ent):∀ (L:List Ent),(∀ x∈L,x.1≠e.1)->L.Pairwise (fun a b=>bfN a.1 b.1=true)->∃ L1 L2,L=L1++L2/\zF e L=L1++e :: L2/\(∀ x∈L1,bfN e.1 x.1=false)/\∀ x∈L2,bfN e.1 x.1=true
 | [],_,_=>⟨[],[],rfl,rfl,by simp,by simp⟩
 | x :: L,hn,hp=>by
  obtain ⟨p1,p2⟩:=List.pairwise_cons.1 hp
  rw [zF]
  by_cases h:bfN e.1 x.1=true
  ·rw [if_pos (.inr h)]
   refine ⟨[],x :: L,rfl,?_,by simp,?_⟩
   ·rw [List.nil_append]
    congr 1
    rw [List.filter_eq_self]
    intro y hy
    exact decide_eq_true (hn y hy)
   intro y hy
   rcases List.mem_cons.1 hy with rfl | hy
   ·exact h
   exact zmV h (p1 y hy)
  have h1:¬ (x.1=e.1\/bfN e.1 x.1=true):=by
   rintro (h2 | h2)
   ·exact hn x Sm h2
   exact h h2
  rw [if_neg h1]
  obtain ⟨L1,L2,q1,q2,q3,q4⟩:=zdT e L (fun y hy=>hn y (List.mem_cons_of_mem _ hy)) p2
  refine ⟨x :: L1,L2,by rw [q1];rfl,by rw [q2];rfl,?_,q4⟩
  intro y hy
  rcases List.mem_cons.1 hy with rfl | hy
  ·simpa using h
  exact q3 y hy
theorem zft (e:Ent):∀ (L:List Ent),(∃ x∈L,x.1=e.1)->L.Pairwise (fun a b=>bfN a.1 b.1=true)->∃ L1 x L2,L=L1++x :: L2/\x.1=e.1/\zF e L=L1++e :: L2
 | [],h,_=>by obtain ⟨x,hx,_⟩:=h;simp at hx
 | x :: L,hx,hp=>by
  obtain ⟨p1,p2⟩:=List.pairwise_cons.1 hp
  rw [zF]
  by_cases h:x.1=e.1
  ·rw [if_pos (.inl h)]
   refine ⟨[],x,L,rfl,h,?_⟩
   rw [List.nil_append]
   congr 1
   rw [List.filter_cons_of_neg (by simp [h]),List.filter_eq_self]
   intro y hy
   refine decide_eq_true fun e2=>?_
   have:=p1 y hy
   rw [h,e2,zfs] at this;cases this
  obtain ⟨y,hy,BV⟩:=hx
  have hy:y∈L:=by
   rcases List.mem_cons.1 hy with rfl | hy
   ·exact absurd BV h
   exact hy
  have h1:¬ (x.1=e.1\/bfN e.1 x.1=true):=by
   rintro (h2 | h2)
   ·exact h h2
   have:=zmV (p1 y hy) (BV ▸ h2)
   rw [zfs] at this;cases this
  rw [if_neg h1]
  obtain ⟨L1,z,L2,q1,q2,q3⟩:=zft e L ⟨y,hy,BV⟩ p2
  exact ⟨x :: L1,z,L2,by rw [q1];rfl,q2,by rw [q3];rfl⟩
theorem zeu (A B:List Ent) (p:Bs):zk (A++B) p=zk A p++zk B p:=by unfold zk;rw [List.filter_append,List.map_append]
theorem zgw (e:Ent) (B:List Ent) (p:Bs):zk (e :: B) p=(if zw e.1=(p,true) then [zbj e] else [])++zk B p:=by
 unfold zk
 by_cases h:zw e.1=(p,true)
 ·rw [List.filter_cons_of_pos (by unfold zfr;simp [h]),if_pos h];rfl
 rw [List.filter_cons_of_neg (by unfold zfr;simp [h]),if_neg h];rfl
theorem zdU {L:List Ent} {c:Bs × Bs} (h:c∈zk L p):∃ e∈L,c=zbj e/\zw e.1=(p,true):=by
 obtain ⟨e,he,rfl⟩:=List.mem_map.1 h
 obtain ⟨h1,h2⟩:=List.mem_filter.1 he
 exact ⟨e,h1,rfl,of_decide_eq_true h2⟩
theorem ziP {a b:Ent} (h1:Nm a.1) (h2:Nm b.1) {p:Bs} (k1:zw a.1=(p,true)) (k2:zw b.1=(p,true)):bfN a.1 b.1=ltB (zbj a).1 (zbj b).1:=by
 obtain ⟨p1,l1,a1,a2,a3,_⟩:=zcA h1
 obtain ⟨p2,l2,b1,b2,b3,_⟩:=zcA h2
 rw [k1] at a1
 rw [k2] at b1
 obtain ⟨rfl,_⟩:=Prod.mk.inj a1
 obtain ⟨rfl,_⟩:=Prod.mk.inj b1
 unfold bfN zbj
 rw [a3,b3,zmM,a2,b2]
theorem zuv {L:List Ent} (hn:∀ e∈L,Nm e.1) (h:L.Pairwise (fun a b=>bfN a.1 b.1=true)) (p:Bs):(zk L p).Pairwise (fun a b=>ltB a.1 b.1=true):=by
 unfold zk
 rw [List.pairwise_map]
 refine List.Pairwise.imp_of_mem ?_ (h.filter _)
 intro a b ha hb wT
 obtain ⟨a1,a2⟩:=List.mem_filter.1 ha
 obtain ⟨b1,b2⟩:=List.mem_filter.1 hb
 rw [<- ziP (hn a a1) (hn b b1) (of_decide_eq_true a2) (of_decide_eq_true b2)]
 exact wT
theorem zuw {e:Ent} {L:List Ent} (hL:TrL L) (he:Nm e.1) (hn:∀ x∈L,x.1≠e.1) {p:Bs} (hp:zw e.1=(p,true)) (i:Nat) (hi:i<=(zk L p).length)
  (h1:∀ j (hj:j<(zk L p).length),j<i->ltB (zk L p)[j].1 (zbj e).1=true) (h2:∀ j (hj:j<(zk L p).length),i<=j->ltB (zk L p)[j].1 (zbj e).1=false) :
  zk (zF e L) p=(zk L p).take i++zbj e :: (zk L p).drop i:=by
 obtain ⟨L1,L2,q1,q2,q3,q4⟩:=zdT e L hn hL.up
 have n1:∀ x∈L1,Nm x.1:=fun x hx=>hL.nm x (by rw [q1];simp [hx])
 have n2:∀ x∈L2,Nm x.1:=fun x hx=>hL.nm x (by rw [q1];simp [hx])
 have e0:zk L p=zk L1 p++zk L2 p:=by rw [q1,zeu]
 have ds:∀ c∈zk L1 p,ltB c.1 (zbj e).1=true:=fun c hc=>by
  obtain ⟨x,hx,rfl,ud⟩:=zdU hc
  rw [<- ziP (n1 x hx) he ud hp]
  rcases zmW (n1 x hx) he (hn x (by rw [q1];simp [hx])) with h | h
  ·exact h
  rw [q3 x hx] at h;cases h
 have BW:∀ c∈zk L2 p,ltB c.1 (zbj e).1=false:=fun c hc=>by
  obtain ⟨x,hx,rfl,ud⟩:=zdU hc
  rw [<- ziP (n2 x hx) he ud hp]
  exact zuu (q4 x hx)
 have hk:i=(zk L1 p).length:=by
  rcases Nat.lt_trichotomy i (zk L1 p).length with h | h | h
  ·have hj:i<(zk L p).length:=by rw [e0,List.length_append];omega
   have a1:=h2 i hj Lr
   have a2:=ds ((zk L p)[i]) (by simp only [e0,List.getElem_append_left h];exact List.getElem_mem h)
   rw [a1] at a2;cases a2
  ·exact h
  have hj:(zk L1 p).length<(zk L p).length:=by omega
  have a1:=h1 _ hj h
  have a2:=BW ((zk L p)[(zk L1 p).length]) (by
   have:(zk L2 p)≠[]:=fun e2=>by rw [e0,e2] at hj;simp at hj
   simp only [e0]
   rw [List.getElem_append_right Lr]
   exact List.getElem_mem _)
  rw [a1] at a2;cases a2
 subst hk
 rw [q2,zeu,zgw,if_pos hp,e0,List.take_left,List.drop_left];rfl
theorem zmY {e:Ent} {L:List Ent} (hL:TrL L) (hn:∀ x∈L,x.1≠e.1) {p:Bs} (hp:zw e.1≠(p,true)):zk (zF e L) p=zk L p:=by
 obtain ⟨L1,L2,q1,q2,_⟩:=zdT e L hn hL.up
 rw [q2,zeu,zgw,if_neg hp,q1,zeu];rfl
theorem zux {e:Ent} {L:List Ent} (hL:TrL L) (hx:∃ x∈L,x.1=e.1) (p:Bs):zk (zF e L) p=zk L p:=by
 obtain ⟨L1,x,L2,q1,q2,q3⟩:=zft e L hx hL.up
 have hk:zbj e=zbj x:=by unfold zbj;rw [q2]
 rw [q3,q1,zeu,zeu,zgw,zgw,q2,hk]
def zt (L:List Ent) (s:Bs):Bool:=L.any fun e=>e.1==s
def lkE (L:List Ent) (s:Bs):Option Ent:=L.find? fun e=>e.1==s
theorem zbr {L:List Ent}:zt L s=true ↔ ∃ x∈L,x.1=s:=by unfold zt;simp
theorem zda {L:List Ent} (h:zt L s=false):∀ x∈L,x.1≠s:=fun x hx e=>by
 have:=zbr.2 ⟨x,hx,e⟩
 rw [h] at this;cases this
theorem ziQ (L:List Ent) (s:Bs):(lkE L s).isSome=zt L s:=by unfold lkE zt;rw [Bool.eq_iff_iff,List.find?_isSome];simp
theorem ziR {L:List Ent} {e:Ent} (h:lkE L s=some e):e∈L/\e.1=s:=by
 unfold lkE at h
 exact ⟨List.mem_of_find?_eq_some h,by simpa using List.find?_some h⟩
theorem zuy {L:List Ent} (h:L.Pairwise (fun a b=>bfN a.1 b.1=true)):(L.map (·.1)).Nodup:=by
 unfold List.Nodup
 rw [List.pairwise_map]
 refine h.imp fun {a b} wT e=>?_
 rw [e,zfs] at wT;cases wT
theorem zgx {L:List Ent} (h:L.Pairwise (fun a b=>bfN a.1 b.1=true)) {e:Ent} (he:e∈L):lkE L e.1=some e:=by
 induction L with
 | nil=>simp at he
 | cons x L ih =>
  obtain ⟨p1,p2⟩:=List.pairwise_cons.1 h
  unfold lkE
  rw [List.find?_cons]
  by_cases hx:x.1=e.1
  ·have:x=e:=by
    rcases List.mem_cons.1 he with rfl | he
    ·rfl
    have:=p1 e he
    rw [hx,zfs] at this;cases this
   subst this
   simp
  have:(x.1==e.1)=false:=by simpa using hx
  rw [this]
  have he:e∈L:=by
   rcases List.mem_cons.1 he with rfl | he
   ·exact absurd rfl hx
   exact he
  exact ih p2 he
theorem zdq {e:Ent} {L:List Ent} (h:L.Pairwise (fun a b=>bfN a.1 b.1=true)) (y:Ent):y∈zF e L ↔ y=e\/(y∈L/\y.1≠e.1):=by
 cases hh:zt L e.1 with
 | false =>
  have hn:=zda hh
  obtain ⟨L1,L2,q1,q2,_⟩:=zdT e L hn h
  rw [q2]
  have:y∈L ↔ y∈L1\/y∈L2:=by rw [q1,List.mem_append]
  rw [List.mem_append,List.mem_cons,this]
  constructor
  ·rintro (k | rfl | k)
   ·exact .inr ⟨.inl k,hn y (by rw [q1];simp [k])⟩
   ·exact .inl rfl
   exact .inr ⟨.inr k,hn y (by rw [q1];simp [k])⟩
  rintro (rfl | ⟨k | k,_⟩)
  ·exact .inr (.inl rfl)
  ·exact .inl k
  exact .inr (.inr k)
 | true =>
  obtain ⟨L1,x,L2,q1,q2,q3⟩:=zft e L (zbr.1 hh) h
  have bR:=zuy h
  rw [q1,List.map_append,List.map_cons] at bR
  have hn:∀ z,z∈L1\/z∈L2->z.1≠x.1:=by
   intro z hz e2
   rw [List.nodup_append] at bR
   obtain ⟨d1,d2,d3⟩:=bR
   rcases hz with hz | hz
   ·exact d3 z.1 (List.mem_map.2 ⟨z,hz,rfl⟩) x.1 Sm e2
   exact (List.nodup_cons.1 d2).1 (List.mem_map.2 ⟨z,hz,e2⟩)
  rw [q3,q1]
  simp only [List.mem_append,List.mem_cons]
  constructor
  ·rintro (k | rfl | k)
   ·exact .inr ⟨.inl k,q2 ▸ hn y (.inl k)⟩
   ·exact .inl rfl
   exact .inr ⟨.inr (.inr k),q2 ▸ hn y (.inr k)⟩
  rintro (rfl | ⟨k | rfl | k,aH⟩)
  ·exact .inr (.inl rfl)
  ·exact .inl k
  ·exact absurd q2 aH
  exact .inr (.inr k)
theorem zmZ {e:Ent} {L:List Ent} (h:L.Pairwise (fun a b=>bfN a.1 b.1=true)) (hn:∀ x∈L,Nm x.1) (he:Nm e.1):(zF e L).Pairwise (fun a b=>bfN a.1 b.1=true):=by
 cases hh:zt L e.1 with
 | false =>
  have eC:=zda hh
  obtain ⟨L1,L2,q1,q2,q3,q4⟩:=zdT e L eC h
  rw [q2]
  rw [q1] at h
  obtain ⟨p1,p2,p3⟩:=List.pairwise_append.1 h
  refine List.pairwise_append.2 ⟨p1,List.pairwise_cons.2 ⟨q4,p2⟩,fun a ha b hb=>?_⟩
  rcases List.mem_cons.1 hb with rfl | hb
  ·rcases zmW (hn a (by rw [q1];simp [ha])) he (eC a (by rw [q1];simp [ha])) with k | k
   ·exact k
   rw [q3 a ha] at k;cases k
  exact p3 a ha b hb
 | true =>
  obtain ⟨L1,x,L2,q1,q2,q3⟩:=zft e L (zbr.1 hh) h
  rw [q3]
  rw [q1] at h
  obtain ⟨p1,p2,p3⟩:=List.pairwise_append.1 h
  obtain ⟨r1,r2⟩:=List.pairwise_cons.1 p2
  refine List.pairwise_append.2 ⟨p1,List.pairwise_cons.2 ⟨fun y hy=>q2 ▸ r1 y hy,r2⟩,fun a ha b hb=>?_⟩
  rcases List.mem_cons.1 hb with rfl | hb
  ·exact q2 ▸ p3 a ha x Sm
  exact p3 a ha b (List.mem_cons_of_mem _ hb)
theorem zm0 {e:Ent} {L:List Ent} (h:TrL L) (he:Nm e.1) (ha:(zw e.1).1=[]\/zt L (zw e.1).1=true):TrL (zF e L):=by
 refine ⟨zmZ h.up h.nm he,fun y hy=>?_,fun y hy=>?_⟩
 ·rcases (zdq h.up y).1 hy with rfl | ⟨hy,_⟩
  ·exact he
  exact h.nm y hy
 have gen:∀ q,(∃ x∈L,x.1=q)->∃ x∈zF e L,x.1=q:=by
  rintro q ⟨x,hx,rfl⟩
  by_cases h2:x.1=e.1
  ·exact ⟨e,(zdq h.up e).2 (.inl rfl),h2.symm⟩
  exact ⟨x,(zdq h.up x).2 (.inr ⟨hx,h2⟩),rfl⟩
 rcases (zdq h.up y).1 hy with rfl | ⟨hy,_⟩
 ·rcases ha with ha | ha
  ·exact .inl ha
  exact .inr (gen _ (zbr.1 ha))
 rcases h.above y hy with k | k
 ·exact .inl k
 exact .inr (gen _ k)
theorem zfu {e:Ent} {L:List Ent} (h:L.Pairwise (fun a b=>bfN a.1 b.1=true)):(zF e L).length=if zt L e.1=true then L.length else L.length+1:=by
 cases hh:zt L e.1 with
 | false =>
  obtain ⟨L1,L2,q1,q2,_⟩:=zdT e L (zda hh) h
  rw [q2,q1];simp;omega
 | true =>
  obtain ⟨L1,x,L2,q1,q2,q3⟩:=zft e L (zbr.1 hh) h
  rw [q3,q1];simp
theorem zm1 {e:Ent} {L:List Ent} (h:L.Pairwise (fun a b=>bfN a.1 b.1=true)) (hn:∀ x∈L,Nm x.1) (he:Nm e.1) (s:Bs):lkE (zF e L) s=if s=e.1 then some e else lkE L s:=by
 have hu:=zmZ h hn he
 by_cases h1:s=e.1
 ·rw [if_pos h1,h1]
  exact zgx hu ((zdq h e).2 (.inl rfl))
 rw [if_neg h1]
 cases h2:lkE L s with
 | some x =>
  obtain ⟨a1,a2⟩:=ziR h2
  rw [<- a2]
  exact zgx hu ((zdq h x).2 (.inr ⟨a1,fun e2=>h1 (by rw [<- a2,e2])⟩))
 | none =>
  cases h3:lkE (zF e L) s with
  | none=>rfl
  | some x =>
   obtain ⟨a1,a2⟩:=ziR h3
   rcases (zdq h x).1 a1 with rfl | ⟨k,_⟩
   ·exact absurd a2.symm h1
   have:=zgx h k
   rw [a2,h2] at this;cases this
def zac (L:List Ent) (s:Bs):List Ent:=L.filter fun e=>decide (e.1≠s)
theorem zm2 (L:List Ent) (s p:Bs):zk (zac L s) p=(zk L p).filter fun c=>decide (c.2≠s):=by
 unfold zk zac
 rw [List.filter_map,List.filter_filter,List.filter_filter]
 congr 1
 refine List.filter_congr fun e _=>?_
 simp only [Function.comp,zbj]
 exact Bool.and_comm _ _
theorem zuz (L:List Ent) {s p:Bs} (h:zw s≠(p,true)):zk (zac L s) p=zk L p:=by
 rw [zm2,List.filter_eq_self]
 intro c hc
 obtain ⟨e,he,rfl,hp⟩:=zdU hc
 refine decide_eq_true fun e2=>h ?_
 rw [<- e2];exact hp
theorem zuA {L:List Ent} (h:TrL L) {s:Bs} (hk:zk L s=[]):TrL (zac L s):=by
 refine ⟨h.up.filter _,fun e he=>h.nm e (List.mem_filter.1 he).1,fun e he=>?_⟩
 obtain ⟨h1,h2⟩:=List.mem_filter.1 he
 rcases h.above e h1 with k | ⟨x,hx,k⟩
 ·exact .inl k
 refine .inr ⟨x,List.mem_filter.2 ⟨hx,decide_eq_true fun e2=>?_⟩,k⟩
 obtain ⟨p,l,a1,_⟩:=zcA (h.nm e h1)
 rw [a1] at k
 have:zbj e∈zk L s:=List.mem_map.2 ⟨e,List.mem_filter.2 ⟨h1,decide_eq_true (by rw [a1,<- e2,k])⟩,rfl⟩
 rw [hk] at this;simp at this
theorem zuB {L:List Ent} (h:L.Pairwise (fun a b=>bfN a.1 b.1=true)) {s:Bs} (hs:zt L s=true):(zac L s).length+1=L.length:=by
 induction L with
 | nil=>simp [zt] at hs
 | cons x L ih =>
  obtain ⟨p1,p2⟩:=List.pairwise_cons.1 h
  unfold zac
  by_cases hx:x.1=s
  ·rw [List.filter_cons_of_neg (by simp [hx]),List.filter_eq_self.2]
   ·rfl
   intro y hy
   refine decide_eq_true fun e=>?_
   have:=p1 y hy
   rw [hx,e,zfs] at this;cases this
  rw [List.filter_cons_of_pos (by simp [hx]),List.length_cons,List.length_cons]
  have:zt L s=true:=by
   obtain ⟨y,hy,he⟩:=zbr.1 hs
   rcases List.mem_cons.1 hy with rfl | hy
   ·exact absurd he hx
   exact zbr.2 ⟨y,hy,he⟩
  have:=ih p2 this
  unfold zac at this
  omega
theorem zuC (L:List Ent) (s t:Bs):lkE (zac L s) t=if t=s then none else lkE L t:=by
 unfold lkE zac
 rw [List.find?_filter]
 by_cases h:t=s
 ·rw [if_pos h,List.find?_eq_none]
  intro x _
  subst h
  simp
 rw [if_neg h]
 congr 1
 funext x
 by_cases hx:x.1=t
 ·simp [hx,h]
 simp [hx]
theorem zuD {L:List Ent} (h:TrL L) {s:Bs} (hs:zt L s=true):(zcB L s).length<=1 ↔ zk L s=[]:=by
 obtain ⟨e,he,rfl⟩:=zbr.1 hs
 rw [zmU h he 33 Om,zgu,List.length_cons]
 constructor
 ·intro hl
  cases hk:zk L e.1 with
  | nil=>rfl
  | cons c r=>rw [hk] at hl;simp at hl
 intro hk
 rw [hk];simp
def zfv (A:List Atr) (r:List Av):Bool:=r.all fun p=>match scT plT p.1 with
 | none=>false
 | some t=>(geL A p.1).any (zaa t.2.1 p.2)
def zcT (A:List Atr) (s:Bs):Bool:=match nrD s with
 | some (r :: _)=>zfv A r
 | _=>false
def zbs (e:Ent):Nat:=if zaP plT plC e.2≠0 then zaP plT plC e.2 else if zcT e.2 e.1=false then 64 else 0
def clE (e:Ent):Ent:=(e.1,clA e.2)
def zP (L:List Ent) (e:Ent):Nat :=
 if (zw e.1).2=false then 34 else if zt L e.1=true then 68 else if (zw e.1).1≠[]/\zt L (zw e.1).1=false then 32 else
 if zbs e≠0 then zbs e else if 1024<=L.length then 80 else 0
def zX (L:List Ent) (e:Ent):List Ent:=if zP L e=0 then zF (clE e) L else L
def zaI (L:List Ent) (s:Bs):Nat:=if zt L s=false then 32 else if zk L s≠[] then 66 else 0
def zaD (L:List Ent) (s:Bs):List Ent:=if zaI L s=0 then zac L s else L
def zbe (L:List Ent) (e:Ent):Nat:=if zt L e.1=false then 32 else zbs e
def zbf (L:List Ent) (e:Ent):List Ent:=if zbe L e=0 then zF (clE e) L else L
theorem ziS (h:(zw s).2=true):Nm s:=by
 rcases zd7 s with h1 | h1
 ·rw [zho h1] at h;cases h
 exact h1
theorem ziT {L:List Ent} {e:Ent} (h:zP L e=0):Nm e.1/\zt L e.1=false/\((zw e.1).1=[]\/zt L (zw e.1).1=true)/\L.length<1024:=by
 unfold zP at h
 split at h
 ·cases h
 rename_i h1
 split at h
 ·cases h
 rename_i h2
 split at h
 ·cases h
 rename_i h3
 split at h
 ·rename_i h4;exact absurd h h4
 split at h
 ·cases h
 rename_i h5
 refine ⟨ziS (by simpa using h1),by simpa using h2,?_,by omega⟩
 by_cases h6:(zw e.1).1=[]
 ·exact .inl h6
 right
 cases h7:zt L (zw e.1).1
 ·exact absurd ⟨h6,h7⟩ h3
 rfl
theorem zuE {L:List Ent} (h:TrL L) (e:Ent):TrL (zX L e):=by
 unfold zX
 split
 ·rename_i h0
  obtain ⟨a1,a2,a3,_⟩:=ziT h0
  exact zm0 h a1 a3
 exact h
theorem zuF {L:List Ent} (h:TrL L) (hl:L.length<=1024) (e:Ent):(zX L e).length<=1024:=by
 unfold zX
 split
 ·rename_i h0
  obtain ⟨a1,a2,a3,a4⟩:=ziT h0
  rw [zfu h.up]
  split <;> omega
 exact hl
theorem zuG {L:List Ent} (h:TrL L) (s:Bs):TrL (zaD L s):=by
 unfold zaD
 split
 ·rename_i h0
  refine zuA h ?_
  unfold zaI at h0
  split at h0
  ·cases h0
  split at h0
  ·cases h0
  rename_i h2;simpa using h2
 exact h
theorem zuH {L:List Ent} (hl:L.length<=1024) (s:Bs):(zaD L s).length<=1024:=by
 unfold zaD
 split
 ·exact Nat.le_trans (List.length_filter_le _ _) hl
 exact hl
theorem zm3 {L:List Ent} {e:Ent} (h:zbe L e=0):zt L e.1=true:=by
 unfold zbe at h
 split at h
 ·cases h
 rename_i h1;simpa using h1
theorem zuI {L:List Ent} (h:TrL L) (e:Ent):TrL (zbf L e):=by
 unfold zbf
 split
 ·rename_i h0
  obtain ⟨x,hx,he⟩:=zbr.1 (zm3 h0)
  have hn:=h.nm x hx
  rw [he] at hn
  refine zm0 h hn ?_
  rcases h.above x hx with k | ⟨y,hy,k⟩
  ·rw [he] at k;exact .inl k
  rw [he] at k;exact .inr (zbr.2 ⟨y,hy,k⟩)
 exact h
theorem zuJ {L:List Ent} (h:TrL L) (hl:L.length<=1024) (e:Ent):(zbf L e).length<=1024:=by
 unfold zbf
 split
 ·rename_i h0
  rw [zfu h.up,if_pos (show zt L (clE e).1=true from zm3 (e:=e) h0)];exact hl
 exact hl
end Go.Proofs.YtijglbolppkefaaGreatDoor

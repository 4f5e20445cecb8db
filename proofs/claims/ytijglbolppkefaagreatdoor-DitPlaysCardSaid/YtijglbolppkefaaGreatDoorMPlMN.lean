/- Names that are put are read. -/
import Derived.Test.YtijglbolppkefaaGreatDoorMDqJ
import Derived.Test.YtijglbolppkefaaGreatDoorDqI
import Derived.Test.YtijglbolppkefaaGreatDoorDqE
import Derived.BigQuiet
set_option linter.unusedVariables false
set_option linter.unusedSimpArgs false
set_option maxHeartbeats 25600000
set_option maxRecDepth 100000
namespace Go.Proofs.YtijglbolppkefaaGreatDoor
open Go.Proofs.Tryz
open Go Go.RowKit Go.Proofs.BerK Go.Proofs.MemK Go.Proofs.UtfK
variable {r : List Av} {D E P : List (List Av)} {a l s x : Bs} {w w' : World} {b : Nat} {t : TypeId}
theorem zo8 {p:Prop} (h:p:=by
 go_wp2_with fail
 refine HO.o.mono ?_
 rintro e w0 ⟨rfl,aE⟩
 go_wp2
 go_ret2
 exact zeW HE.o aE):p:=h
theorem zyV:∀ n:Fin 256,tcN n.val=true->n.val≠92/\n.val≠43/\n.val≠44/\n.val≠61/\n.val≠32:=by decide +kernel
theorem zhg {c:UInt8} (h:tcN c.toNat=true):c≠92/\c≠43/\c≠44/\c≠61/\c≠32:=by
 obtain ⟨h1,h2,h3,h4,h5⟩:=zyV ⟨c.toNat,c.toNat_lt⟩ h
 exact ⟨fun e=>h1 (by rw [e];rfl),fun e=>h2 (by rw [e];rfl),fun e=>h3 (by rw [e];rfl),fun e=>h4 (by rw [e];rfl),fun e=>h5 (by rw [e];rfl)⟩
theorem zhh {T:Bs} (h:tyL T=true):∀ c∈T,tcN c.toNat=true:=by
 simp only [tyL,Bool.and_eq_true,List.all_eq_true] at h
 exact h.2
theorem zyW (T:Bs) (h:∀ c∈T,tcN c.toNat=true) (u:Bs):zv (T++u)=(T++(zv u).1,(zv u).2):=by
 induction T with
 | nil=>rfl
 | cons c r ih =>
  obtain ⟨n1,n2,n3,_⟩:=zhg (h c Sm)
  rw [List.cons_append,zd1 _ _ n1 n2 n3,ih (fun x hx=>h x (by simp [hx]))]
  rfl
theorem zo9 (p:Av) (h:tyL p.1=true) (u:Bs):zv (avL p++u)=(avL p++(zv u).1,(zv u).2):=by
 unfold avL
 rw [List.append_assoc,List.cons_append,zyW _ (zhh h),zd1 61 _ De De De]
 unfold esL
 rw [zwE]
 simp
theorem zyX (ps:List Av) (h:∀ p∈ps,tyL p.1=true) (u:Bs) (h1:(zv u).1=[]) (h2:(zv u).2.1=[]) :
  zv (jnL 43 false (ps.map avL)++u)=([],ps.map avL,(zv u).2.2):=by
 induction ps with
 | nil=>rw [List.map_nil,jnL,List.nil_append,<- h2,<- h1]
 | cons q qs ih =>
  rw [List.map_cons,jnL,if_neg De,List.append_assoc,List.append_assoc,List.cons_append,List.nil_append,zgX,zo9 q (h q Sm),ih (fun p hp=>h p (by simp [hp]))]
  simp
theorem zpa (r:List Av) (h0:r≠[]) (h:∀ p∈r,tyL p.1=true) (u:Bs) (h1:(zv u).1=[]) (h2:(zv u).2.1=[]) :
  (zv (ptL r++u)).1 :: (zv (ptL r++u)).2.1=r.map avL/\(zv (ptL r++u)).2.2=(zv u).2.2:=by
 cases r with
 | nil=>exact absurd rfl h0
 | cons p ps =>
  unfold ptL
  rw [List.map_cons,jnL,if_pos rfl,List.nil_append,List.append_assoc,zo9 p (h p Sm),zyX ps (fun q hq=>h q (by simp [hq])) u h1 h2]
  simp
theorem zyY (rs:List (List Av)) (h0:∀ r∈rs,r≠[]) (h:∀ r∈rs,∀ p∈r,tyL p.1=true):zv (jnL 44 false (rs.map ptL))=([],[],rs.map (·.map avL)):=by
 induction rs with
 | nil=>rfl
 | cons r rs ih =>
  have hi:=ih (fun x hx=>h0 x (by simp [hx])) (fun x hx=>h x (by simp [hx]))
  have hp:=zpa r (h0 r Sm) (h r Sm) (jnL 44 false (rs.map ptL)) (by rw [hi]) (by rw [hi])
  rw [List.map_cons,jnL,if_neg De,List.cons_append,List.nil_append,zgY,hp.1,hp.2,hi]
  simp
theorem zyZ (D:List (List Av)) (hD:D≠[]) (h0:∀ r∈D,r≠[]) (h:∀ r∈D,∀ p∈r,tyL p.1=true):zbh (nmL D)=D.map (·.map avL):=by
 cases D with
 | nil=>exact absurd rfl hD
 | cons r rs =>
  have hi:=zyY rs (fun x hx=>h0 x (by simp [hx])) (fun x hx=>h x (by simp [hx]))
  have hp:=zpa r (h0 r Sm) (h r Sm) (jnL 44 false (rs.map ptL)) (by rw [hi]) (by rw [hi])
  unfold zbh zc4 nmL
  rw [List.map_cons,jnL,if_pos rfl,List.nil_append,List.nil_append,List.nil_append,hp.1,hp.2,hi]
  simp
theorem zy0 (T:Bs) (h:∀ c∈T,tcN c.toNat=true):tlB (trB T)=T:=by
 have e1:∀ l:Bs,(∀ c∈l,tcN c.toNat=true)->l.dropWhile (· == 32)=l:=by
  intro l hl
  cases l with
  | nil=>rfl
  | cons c r=>rw [List.dropWhile_cons_of_neg];simpa using (zhg (hl c Sm)).2.2.2.2
 unfold tlB trB
 rw [e1 T.reverse (fun c hc=>h c (List.mem_reverse.1 hc)),List.reverse_reverse,e1 T h]
theorem zy1 (T:Bs) (h:∀ c∈T,tcN c.toNat=true) (u:Bs):zbo 61 (T++61 :: u)=T/\zba 61 (T++61 :: u)=u:=by
 induction T with
 | nil=>exact ⟨by simp [zbo],by simp [zba]⟩
 | cons c r ih =>
  have hc:=(zhg (h c Sm)).2.2.2.1
  obtain ⟨h1,h2⟩:=ih (fun x hx=>h x (by simp [hx]))
  refine ⟨?_,?_⟩
  ·unfold zbo at h1 ⊢
   rw [List.cons_append,List.takeWhile_cons_of_pos (by simpa using hc),h1]
  unfold zba at h2 ⊢
  rw [List.cons_append,List.dropWhile_cons_of_pos (by simpa using hc),h2]
theorem zy2 (p:Av) (h:tyL p.1=true) (h0:p.2≠[]):rpL (avL p)=some p:=by
 obtain ⟨c1,c2⟩:=zy1 p.1 (zhh h) (esL p.2)
 have e:rvL (esL p.2)=some p.2:=by
  unfold rvL esL
  rw [zwG,zwF]
 unfold rpL avL
 rw [c1,c2,zy0 p.1 (zhh h),h,e]
 simp [rpJ,h0]
theorem zy3 (r:List Av) (h:∀ p∈r,tyL p.1=true/\p.2≠[]):zaz (r.map avL)=some r:=by
 induction r with
 | nil=>rfl
 | cons p ps ih =>
  obtain ⟨h1,h2⟩:=h p Sm
  rw [List.map_cons,zaz,zy2 p h1 h2,ih (fun q hq=>h q (by simp [hq]))]
  rfl
theorem zy4 (D:List (List Av)) (h:∀ r∈D,∀ p∈r,tyL p.1=true/\p.2≠[]):rpp (D.map (·.map avL))=some D:=by
 induction D with
 | nil=>rfl
 | cons r rs ih =>
  rw [List.map_cons,rpp,zy3 r (h r Sm),ih (fun x hx=>h x (by simp [hx]))]
  rfl
theorem zy5 {p:Av} (h:zbH p=true):tyL p.1=true/\p.2≠[]:=by
 simp only [zbH,Bool.and_eq_true,decide_eq_true_eq] at h
 exact ⟨h.1.1,h.1.2⟩
theorem zeS (h:prL r=true):r≠[]/\∀ p∈r,tyL p.1=true/\p.2≠[]:=by
 obtain ⟨p1,p2,p3⟩:=zcv h
 exact ⟨by rintro rfl;simp at p1,fun p hp=>zy5 (p3 p hp)⟩
theorem zy6 (h:r≠[]):ptL r≠[]:=by
 cases r with
 | nil=>exact absurd rfl h
 | cons p ps=>simp [ptL,jnL,avL]
theorem zhi (h:∀ r∈D,r≠[]) (hD:D≠[]):nmL D≠[]:=by
 cases D with
 | nil=>exact absurd rfl hD
 | cons r rs =>
  unfold nmL
  rw [List.map_cons,jnL]
  have:=zy6 (h r Sm)
  simp [this]
theorem zhj (D:List (List Av)) (hl:D.length<=32) (h:∀ r∈D,prL r=true) (h4:(nmL D).length<=4096):rdD (nmL D)=(D,0):=by
 by_cases hD:D=[]
 ·subst hD;rfl
 have hn:=zhi (fun r hr=>(zeS (h r hr)).1) hD
 have hs:=zyZ D hD (fun r hr=>(zeS (h r hr)).1) (fun r hr p hp=>((zeS (h r hr)).2 p hp).1)
 rw [zlW _ Om hn (by rw [hs];exact zy4 D fun r hr=>(zeS (h r hr)).2)]
 have h5:lgD D=false:=by
  unfold lgD
  rw [Bool.or_eq_false_iff,decide_eq_false_iff_not,List.any_eq_false]
  refine ⟨by omega,fun r hr=>?_⟩
  have:=(zcv (h r hr)).2.1
  simp;omega
 have h6:ckD D=0:=by
  unfold ckD
  rw [if_neg Om,if_pos (by simpa using h)]
 rw [h5,h6]
 simp
def GD (D:List (List Av)):Prop:=D.length<=32/\(∀ r∈D,prL r=true/\nmR r=r)/\(nmL D).length<=4096
def nrD (s:Bs):Option (List (List Av)):=if noD s=(s,0) then some (rdD s).1 else none
theorem zy7 {α:Type} {f:α->α} {l:List α} (h:∀ x∈l,f x=x):l.map f=l:=by
 induction l with
 | nil=>rfl
 | cons x l ih=>rw [List.map_cons,h x Sm,ih fun y hy=>h y (by simp [hy])]
theorem zy8 {α:Type} {f:α->α} {l:List α} (h:l.map f=l):∀ x∈l,f x=x:=by
 induction l with
 | nil=>simp
 | cons x l ih =>
  rw [List.map_cons] at h
  injection h with h1 h2
  intro y hy
  rcases List.mem_cons.1 hy with rfl | hy
  ·exact h1
  exact ih h2 y hy
theorem zy9 (h:GD D):puD D=(nmL D,0):=by
 have h6:ckD D=0:=by
  unfold ckD
  rw [if_neg (by have:=h.1;omega),if_pos (by simpa using fun r hr=>(h.2.1 r hr).1)]
 unfold puD
 rw [if_neg (by simp [h6]),if_neg (by have:=h.2.2;omega)]
theorem zeT (h:GD D):nrD (nmL D)=some D:=by
 have hr:=zhj D h.1 (fun r hr=>(h.2.1 r hr).1) h.2.2
 have hn:noD (nmL D)=(nmL D,0):=by
  rw [zhG hr,zy7 fun r hr=>(h.2.1 r hr).2,zy9 h]
 unfold nrD
 rw [if_pos hn,hr]
theorem zaA (h:nrD s=some D):s=nmL D/\GD D:=by
 unfold nrD at h
 split at h
 ·rename_i hn
  injection h with h
  by_cases h2:(rdD s).2=0
  ·obtain ⟨E,e,hE⟩:∃ E e,rdD s=(E,e):=⟨_,_,rfl⟩
   rw [hE] at h h2
   simp only at h h2
   subst h2 h
   rw [zhG hE] at hn
   unfold puD at hn
   split at hn
   ·rename_i hc;injection hn with _ h3;exact absurd h3 hc
   rename_i hc
   split at hn
   ·injection hn with _ h3;cases h3
   rename_i h4
   injection hn with h3 _
   obtain ⟨q1,q2⟩:=zf4 (show ckD (E.map nmR)=0 by omega)
   have hr:=zhj (E.map nmR) q1 q2 Om
   rw [h3,hE] at hr
   injection hr with hr _
   have hs:=zy8 hr.symm
   rw [<- hr] at q1 q2 h3 h4
   exact ⟨h3.symm,q1,fun r hr=>⟨q2 r hr,hs r hr⟩,by omega⟩
  unfold noD at hn
  rw [if_pos h2] at hn
  injection hn with _ h3
  exact absurd h3 h2
 cases h
theorem zza (h:noD s=(s,0)):∃ D,nrD s=some D:=by unfold nrD;rw [if_pos h];exact ⟨_,rfl⟩
theorem zzb (h:noD s≠(s,0)):nrD s=none:=by unfold nrD;rw [if_neg h]
theorem zj1 (hD:GD D) (hE:GD E) (h:nmL D=nmL E):D=E:=by
 have h1:=zeT hD
 rw [h,zeT hE] at h1
 exact (Option.some.inj h1).symm
def chL (a b:Bs):Bs:=if a=[] then b else if b=[] then a else a++44 :: b
theorem zzc (sep:UInt8) (b:List (Bs)):∀ (f:Bool) (a:List (Bs)),a≠[]->jnL sep f (a++b)=jnL sep f a++jnL sep false b:=by
 intro f a
 induction a generalizing f with
 | nil=>intro h;exact absurd rfl h
 | cons x r ih =>
  intro _
  rw [List.cons_append,jnL,jnL]
  by_cases hr:r=[]
  ·subst hr;simp [jnL]
  rw [ih false hr];simp
theorem zpb (sep:UInt8) (b:List (Bs)) (h:b≠[]):jnL sep false b=sep :: jnL sep true b:=by
 cases b with
 | nil=>exact absurd rfl h
 | cons x r=>rw [jnL,jnL,if_neg De,if_pos rfl];simp
theorem zj2:nmL []=[]:=rfl
theorem zzd (hD:∀ r∈D,r≠[]) (hE:∀ r∈E,r≠[]):nmL (D++E)=chL (nmL D) (nmL E):=by
 unfold chL
 by_cases h1:D=[]
 ·subst h1;rw [zj2,if_pos rfl];rfl
 rw [if_neg (zhi hD h1)]
 by_cases h2:E=[]
 ·subst h2;rw [zj2,if_pos rfl,List.append_nil]
 rw [if_neg (zhi hE h2)]
 unfold nmL
 rw [List.map_append,zzc _ _ _ _ (by simpa using h1),zpb _ _ (by simpa using h2)]
theorem zj3 (r:List Av) (D:List (List Av)):nmL (r :: D)=ptL r++jnL 44 false (D.map ptL):=by
 unfold nmL;rw [List.map_cons,jnL,if_pos rfl,List.nil_append]
theorem zj4 (r:List Av):nmL [r]=ptL r:=by rw [zj3];simp [jnL]
theorem zpc (D:List (List Av)) (h:D≠[]):jnL 44 false (D.map ptL)=44 :: nmL D:=zpb _ _ (by simpa using h)
theorem zze (a b:Bs):a.length<=(chL a b).length/\b.length<=(chL a b).length/\(chL a b).length<=a.length+b.length+1:=by
 unfold chL
 split
 ·rename_i h;subst h;simp
 split
 ·rename_i h;subst h;simp
 simp;omega
theorem zhk (h:prL r=true/\nmR r=r):r≠[]:=(zeS h.1).1
theorem zfN (h:GD (P++E)):GD P/\GD E:=by
 obtain ⟨h1,h2,h3⟩:=h
 rw [zzd (fun r hr=>zhk (h2 r (by simp [hr]))) (fun r hr=>zhk (h2 r (by simp [hr])))] at h3
 obtain ⟨c1,c2,_⟩:=zze (nmL P) (nmL E)
 simp at h1
 exact ⟨⟨by omega,fun r hr=>h2 r (by simp [hr]),by omega⟩,by omega,fun r hr=>h2 r (by simp [hr]),by omega⟩
theorem zeU (h:GD (r :: D)):GD [r]/\GD D:=zfN (P:=[r]) h
theorem zzf:GD []:=⟨by simp,by simp,by simp [nmL,jnL]⟩
def psL:Bs->Bs
 | []=>[]
 | c :: r =>
  if c=92 then
   match r with
   | []=>[c]
   | d :: r'=>c :: d :: psL r'
  else if c=44 then [] else c :: psL r
theorem zhl (r:Bs):psL (92 :: r)=(92 :: r).take 2++psL ((92 :: r).drop 2):=by
 cases r with
 | nil=>simp [psL]
 | cons d r'=>rw [psL];simp
theorem zhm (r:Bs):psL (44 :: r)=[]:=by
 conv=>lhs;unfold psL
 cases r <;> simp
theorem zdF (c:UInt8) (r:Bs) (h1:c≠92) (h3:c≠44):psL (c :: r)=c :: psL r:=by
 conv=>lhs;unfold psL
 cases r <;> simp [h1,h3]
theorem zzg (s:Bs):∀ (f:Bool) (u:Bs),psL (egL f s++u)=egL f s++psL u:=by
 induction s with
 | nil=>intro f u;rfl
 | cons c r ih =>
  intro f u
  rw [egL,List.append_assoc]
  cases hb:zau c.toNat with
  | true =>
   obtain ⟨_,_,_,_,n1,n2,n3⟩:=zjp c
   rw [zeE _ _ _ hb]
   simp only [List.cons_append,List.nil_append]
   rw [zhl]
   simp only [List.take_succ_cons,List.take_zero,List.drop_succ_cons,List.drop_zero]
   rw [zdF _ _ n1 n3,ih false u]
   rfl
  | false =>
   cases hm:mkN f r.isEmpty c.toNat with
   | true =>
    rw [zeF _ _ _ hb hm]
    simp only [List.cons_append,List.nil_append]
    rw [zhl]
    simp only [List.take_succ_cons,List.take_zero,List.drop_succ_cons,List.drop_zero]
    rw [ih false u]
    rfl
   | false =>
    obtain ⟨n1,n2,n3⟩:=zjq hm
    rw [zeG _ _ _ hb hm]
    simp only [List.cons_append,List.nil_append]
    rw [zdF _ _ n1 n3,ih false u]
theorem zzh (T:Bs) (h:∀ c∈T,tcN c.toNat=true) (u:Bs):psL (T++u)=T++psL u:=by
 induction T with
 | nil=>rfl
 | cons c r ih =>
  obtain ⟨n1,n2,n3,_⟩:=zhg (h c Sm)
  rw [List.cons_append,zdF _ _ n1 n3,ih (fun x hx=>h x (by simp [hx]))]
  rfl
theorem zpd (p:Av) (h:tyL p.1=true) (u:Bs):psL (avL p++u)=avL p++psL u:=by
 unfold avL
 rw [List.append_assoc,List.cons_append,zzh _ (zhh h),zdF 61 _ De De]
 unfold esL
 rw [zzg]
 simp
theorem zzi (ps:List Av) (h:∀ p∈ps,tyL p.1=true) (u:Bs):∀ f:Bool,psL (jnL 43 f (ps.map avL)++u)=jnL 43 f (ps.map avL)++psL u:=by
 induction ps with
 | nil=>intro f;rfl
 | cons q qs ih =>
  intro f
  have hi:=ih (fun p hp=>h p (by simp [hp])) false
  rw [List.map_cons,jnL]
  cases f with
  | true =>
   rw [if_pos rfl,List.nil_append,List.append_assoc,zpd q (h q Sm),hi,List.append_assoc]
  | false =>
   rw [if_neg De,List.append_assoc,List.append_assoc,List.cons_append,List.nil_append,zdF 43 _ De De,zpd q (h q Sm),hi]
   simp
theorem zzj (r:List Av) (D:List (List Av)) (h:∀ p∈r,tyL p.1=true):psL (nmL (r :: D))=ptL r:=by
 rw [zj3]
 show psL (jnL 43 true (r.map avL)++_)=_
 rw [zzi r h]
 by_cases hD:D=[]
 ·subst hD;simp [jnL,psL,ptL]
 rw [zpc D hD,zhm];simp [ptL]
def ahL:List (List Av)->Bs->Option (List (List Av))
 | [],b=>if b=[] then some [] else none
 | r :: D,b=>if nmL (r :: D)=b then some [] else (ahL D b).map (r :: ·)
theorem zzk {b:Bs} (h:ahL D b=some P):∃ E,D=P++E/\nmL E=b:=by
 induction D generalizing P with
 | nil =>
  unfold ahL at h
  split at h
  ·rename_i hb;injection h with h;subst h;exact ⟨[],rfl,hb.symm⟩
  cases h
 | cons r D ih =>
  unfold ahL at h
  split at h
  ·rename_i hb;injection h with h;subst h;exact ⟨_,rfl,hb⟩
  cases h2:ahL D b with
  | none=>rw [h2] at h;cases h
  | some Q =>
   rw [h2] at h
   injection h with h
   obtain ⟨E,h3,h4⟩:=ih h2
   subst h
   exact ⟨E,by rw [h3];rfl,h4⟩
theorem zzl (h:GD (P++E)):ahL (P++E) (nmL E)=some P:=by
 induction P with
 | nil =>
  cases E with
  | nil=>rfl
  | cons r E=>unfold ahL;simp
 | cons r P ih =>
  have hg:=zfN (P:=r :: P) h
  have aH:nmL (r :: (P++E))≠nmL E:=fun e=>by
   have:=congrArg List.length (zj1 (D:=r :: (P++E)) h hg.2 e)
   simp at this;omega
  rw [List.cons_append]
  unfold ahL
  rw [if_neg aH,ih (zeU h).2]
  rfl
def zd6 (s:Bs):Int:=match nrD s with | none => -1 | some D=>(D.length:Nat)
def zw (s:Bs):Bs × Bool:=match nrD s with | some (_ :: D)=>(nmL D,true) | _=>([],false)
def zbY (s:Bs):Bs × Bool:=match nrD s with | some (r :: _)=>(ptL r,true) | _=>([],false)
def zbq (s b:Bs):Bool:=match nrD s with | none=>false | some D=>(ahL D b).isSome
theorem zj5 {b:Bs} (h:zbq s b=true):∃ P E,nrD s=some (P++E)/\nrD b=some E:=by
 unfold zbq at h
 cases h1:nrD s with
 | none=>rw [h1] at h;cases h
 | some D =>
  rw [h1] at h
  simp only at h
  obtain ⟨P,hP⟩:=Option.isSome_iff_exists.1 h
  obtain ⟨E,h3,h4⟩:=zzk hP
  have hg:=(zaA h1).2
  rw [h3] at hg
  exact ⟨P,E,by rw [<- h3],by rw [<- h4];exact zeT (zfN hg).2⟩
theorem zpe {b:Bs} (h1:nrD s=some (P++E)) (h2:nrD b=some E):zbq s b=true:=by
 unfold zbq
 rw [h1,(zaA h2).1]
 simp only
 rw [zzl (zaA h1).2]
 rfl
theorem zd7 (s:Bs):(nrD s=none\/nrD s=some [])\/∃ r D,nrD s=some (r :: D):=by
 cases h:nrD s with
 | none=>exact .inl (.inl rfl)
 | some D=>cases D with
  | nil=>exact .inl (.inr rfl)
  | cons r D=>exact .inr ⟨r,D,rfl⟩
theorem zhn (h:nrD s=none\/nrD s=some []):zbY s=([],false):=by unfold zbY;rcases h with h | h <;> rw [h]
theorem zho (h:nrD s=none\/nrD s=some []):zw s=([],false):=by unfold zw;rcases h with h | h <;> rw [h]
theorem zeV (h:nrD s=some (r :: D)):zbY s=(ptL r,true):=by unfold zbY;rw [h]
theorem zhp (h:nrD s=some (r :: D)):zw s=(nmL D,true):=by unfold zw;rw [h]
theorem zj6 (h:nrD s=some D):zd6 s=(D.length:Nat):=by unfold zd6;rw [h]
theorem zpf (h:nrD s=none):zd6 s = -1:=by unfold zd6;rw [h]
theorem zpg (s:Bs):(zbY s).2=(zw s).2/\(zbY s).2=decide (zd6 s > 0):=by
 rcases zd7 s with h | ⟨r,D,h⟩
 ·rw [zhn h,zho h]
  refine ⟨rfl,?_⟩
  rcases h with h | h
  ·rw [zpf h];rfl
  rw [zj6 h];rfl
 rw [zeV h,zhp h,zj6 h]
 exact ⟨rfl,by simp⟩
theorem zzm (s:ByteArray) (i:Nat) (h:i<s.size) (hc:s[i]=92):min (i+1+1) s.size+(psL (s.data.toList.drop (i+1+1))).length=min i s.size+(psL (s.data.toList.drop i)).length:=by
 have hl:=zl s
 have hd:=zO s.data.toList i Om
 rw [zay s i h,hc] at hd
 have e2:(92 :: s.data.toList.drop (i+1)).drop 2=s.data.toList.drop (i+1+1):=by rw [<- hd,List.drop_drop]
 rw [hd,zhl,e2,List.length_append,<- hd,List.length_take,List.length_drop]
 omega
theorem zzn (s:ByteArray) (i:Nat) (h:i<s.size) (hc:s[i]=44):min i s.size+(psL (s.data.toList.drop i)).length=i:=by
 have hl:=zl s
 have hd:=zO s.data.toList i Om
 rw [zay s i h,hc] at hd
 rw [hd,zhm]
 simp;omega
theorem zzo (s:ByteArray) (i:Nat) (h:i<s.size) (h1:s[i]≠92) (h2:s[i]≠44):min (i+1) s.size+(psL (s.data.toList.drop (i+1))).length=min i s.size+(psL (s.data.toList.drop i)).length:=by
 have hl:=zl s
 have hd:=zO s.data.toList i Om
 rw [zay s i h] at hd
 rw [hd,zdF _ _ h1 h2]
 simp;omega
theorem zzp (s:ByteArray) (i:Nat) (h:s.size<=i):min i s.size+(psL (s.data.toList.drop i)).length=s.size:=by
 have hl:=zl s
 rw [List.drop_of_length_le Om]
 simp [psL];omega
theorem zzq (l:Bs):(psL l).length<=l.length:=by
 have h:∀ (n:Nat) (l:Bs),l.length=n->(psL l).length<=l.length:=by
  intro n
  induction n using Nat.strongRecOn with
  | _ n ih =>
   intro l hl
   cases l with
   | nil=>simp [psL]
   | cons c r =>
    by_cases bE:c=92
    ·subst bE
     rw [zhl,List.length_append]
     have hd:((92 :: r).drop 2).length=(92 :: r:Bs).length - 2:=by simp
     have:=ih ((92 :: r).drop 2).length (by rw [hd];simp at hl ⊢;omega) _ rfl
     have:((92 :: r:Bs).take 2).length=min 2 (92 :: r:Bs).length:=List.length_take
     omega
    by_cases fC:c=44
    ·subst fC;rw [zhm];simp
    rw [zdF _ _ bE fC]
    have:=ih r.length (by simp at hl;omega) r rfl
    simp;omega
 exact h _ l rfl
theorem zzr (s:ByteArray) (hs:s.size<=140737488355328) (w:World):Calls prog 133 #[.string s] w (zcE ((psL s.data.toList).length:Nat) w):=by
 obtain ⟨R,hR⟩:=Ex ((psL s.data.toList).length)
 rw [hR]
 go_enter func133,ntmps133
 go_wp2
 go_loop [3] (fun v=>∃ i:Nat,i<=s.size+1/\v=.int .i64 (i:Nat)/\min i s.size+(psL (s.data.toList.drop i)).length=R) (fun v=>s.size+1 - (intOf v).toNat)
 case atStart=>exact ⟨0,by omega,rfl,by rw [List.drop_zero,hR];omega⟩
 case round =>
  obtain ⟨i,hi,rfl,hinv⟩:=hrel
  by_cases aj:i<s.size
  ·have cW:(i:Int)<(s.size:Int):=by omega
   have h8:s[i].toNat<256:=s[i].toNat_lt
   have HC:=Hy (An (zzm s i aj) (An (zzn s i aj) (zzo s i aj)))
   have H:=Hy hinv
   clear hinv
   obtain ⟨c,hc⟩:=Ex (s[i])
   rw [hc] at h8 HC
   by_cases bE:c=92
   ·have q:((c.toNat:Int)==92)=true:=by rw [bE];rfl
    have HI:=Hy (HC.o.1 bE)
    clear bE
    go_wp2
    exact ⟨⟨i+1+1,by omega,by go_num,by rw [HI.o];exact H.o⟩,by simp [intOf];omega⟩
   have q1:((c.toNat:Int)==92)=false:=by rw [beq_eq_false_iff_ne];intro hh;apply bE;apply UInt8.toNat_inj.1;show _=92;omega
   by_cases fC:c=44
   ·have q2:((c.toNat:Int)==44)=true:=by rw [fC];rfl
    have HI:=Hy (HC.o.2.1 fC)
    clear bE fC
    go_wp2
    go_ret
    refine ⟨?_,rfl⟩
    rw [<- H.o,HI.o];rfl
   have q2:((c.toNat:Int)==44)=false:=by rw [beq_eq_false_iff_ne];intro hh;apply fC;apply UInt8.toNat_inj.1;show _=44;omega
   have HI:=Hy (HC.o.2.2 bE fC)
   clear bE fC
   go_wp2
   exact ⟨⟨i+1,by omega,by go_num,by rw [HI.o];exact H.o⟩,by simp [intOf];omega⟩
  have cW:¬ ((i:Int)<(s.size:Int)):=by omega
  have HI:=Hy (zzp s i Om)
  have H:=Hy hinv
  clear hinv
  go_wp2
  go_ret
  refine ⟨?_,rfl⟩
  rw [<- H.o,HI.o];rfl
theorem zzs (h:l=[]):l.isEmpty=true:=by subst h;rfl
theorem zph (h:l≠[]):l.isEmpty=false:=by cases l <;> simp_all
def zbI (w:World) (b:Nat) (x:Bs) (t:TypeId):Prop:=w.heap[b]?=some (.cells #[.string ⟨x.toArray⟩] t (0,0))
theorem zhq (h:zbI w b x t):w.cell? ⟨b,0,none⟩=some (.string ⟨x.toArray⟩):=zq h 0 _ rfl
theorem zzt (h:zbI w b x t):w.frozen? ⟨b,0,none⟩=false:=zc h 0
theorem zzu (h:zbI w b x t):b<w.heap.size:=zi h
theorem zj7 {y:Bs} (h:zbI w b x t):zbI (w.setCell ⟨b,0,none⟩ (.string ⟨y.toArray⟩)) b y t:=zH h 0 _
theorem zhr (h:zbI w b x t) (n:Nat):zbI (w.drewN n) b x t:=h
def zhs (p q:Bs) (ok:Bool) (b:Nat) (t:TypeId) (w:World) (en:Ending) (w':World):Prop :=
 en=.returned (.tuple #[.string ⟨p.toArray⟩,.string ⟨q.toArray⟩,.bool ok])/\zbI w' b q t/\Chg (fun k=>k=b) w w'
theorem zzv (b:Nat) (w:World) (h:zbI w b [] 9):Calls prog 132 #[.pointer (some ⟨b,0,none⟩)] w (zhs [] [] false b 9 w):=by
 have c:=zhq h
 have H:=Hy h
 clear h
 go_enter func132,ntmps132
 go_wp2
 go_ret3
 exact ⟨rfl,H.o,Chg.refl _ _⟩
def rsL (x:Bs):Bs:=(x.drop (psL x).length).drop 1
theorem zzw (x:Bs) (n:Nat):(⟨x.toArray⟩:ByteArray).extract 0 n=⟨(x.take n).toArray⟩:=by
 rw [<- zbD (ByteArray.extract _ _ _),Lib.extract_data,List.drop_zero,Nat.sub_zero]
theorem zpi (x:Bs) (n:Nat):(⟨x.toArray⟩:ByteArray).extract n x.length=⟨(x.drop n).toArray⟩:=by
 rw [<- zbD (ByteArray.extract _ _ _),show x.length=(⟨x.toArray⟩:ByteArray).size from rfl,Lib.extract_to_end]
theorem zzx (x:Bs):x.take (psL x).length=psL x:=by
 have h:∀ (n:Nat) (x:Bs),x.length=n->x.take (psL x).length=psL x:=by
  intro n
  induction n using Nat.strongRecOn with
  | _ n ih =>
   intro l hl
   cases l with
   | nil=>simp [psL]
   | cons c r =>
    by_cases bE:c=92
    ·subst bE
     cases r with
     | nil=>simp [psL]
     | cons d r =>
      have:=ih r.length (by simp at hl;omega) r rfl
      simp [psL,this]
    by_cases fC:c=44
    ·subst fC;rw [zhm];simp
    have:=ih r.length (by simp at hl;omega) r rfl
    rw [zdF _ _ bE fC]
    simp [this]
 exact h _ x rfl
theorem zzy (x:Bs) (hx:x≠[]) (hl:x.length<=35184372088832) (b:Nat) (w:World) (h:zbI w b x 9):Calls prog 132 #[.pointer (some ⟨b,0,none⟩)] w (zhs (psL x) (rsL x) true b 9 w):=by
 have HP:=Hy (zzr ⟨x.toArray⟩ (show x.length<=_ by omega))
 change Hd (∀ w,Calls prog _ _ w (zcE ((psL x).length:Nat) w)) at HP
 have dN:=zzq x
 have e1:=zzw x (psL x).length
 rw [zzx] at e1
 have e2:=zpi x (psL x).length
 have bP:(x.drop (psL x).length).length=x.length - (psL x).length:=List.length_drop
 have M0:rsL x=(x.drop (psL x).length).drop 1:=rfl
 rw [M0]
 obtain ⟨P,hP⟩:=Ex (psL x)
 rw [hP] at HP dN e1 e2 bP ⊢
 obtain ⟨K,hK⟩:=Ex P.length
 rw [hK] at HP dN e1 e2 bP ⊢
 obtain ⟨R,hR⟩:=Ex (x.drop K)
 rw [hR] at e2 bP ⊢
 have q:=zph hx
 have H:=Hy h
 have l0:=zzu h
 have c0:=zhq h
 have f0:=zzt h
 have q1:(K:Int)<=(x.length:Int):=by omega
 have q2:(0:Int)<=(K:Int):=by omega
 have HK:=Hy hK
 clear M0 hR h hP hx hK bP
 by_cases hr:R=[]
 ·have iy:=zzs hr
  have HR:=Hy (show R.drop 1=R by rw [hr];rfl)
  clear hr
  go_enter func132,ntmps132
  go_wp2
  go_quiet (first | (go_at_call 133;exact Calls.quiet_of_same (HP.o _)))
  have oE:=HK.o
  have H2:=Hy (An (zj7 (y:=R) (zhr H.o nq)) ((Chg.refl (fun k=>k=b) w).drewN nq |>.setCell (p:=⟨b,0,none⟩) (fun _=>rfl) (.string ⟨R.toArray⟩)))
  go_wp2
  obtain ⟨W,hW⟩:=Ex ((w.drewN nq).setCell ⟨b,0,none⟩ (.string ⟨R.toArray⟩))
  rw [hW] at H2 ⊢
  have c1:=zhq H2.o.1
  go_quiet (fail)
  go_wp2
  go_ret3
  refine ⟨by rw [HR.o];rfl,?_,?_⟩
  ·rw [HR.o];exact zhr H2.o.1 nq
  exact H2.o.2.drewN nq
 have iy:=zph hr
 have e3:=zpi R 1
 have q3:(1:Int)<=(R.length:Int):=by have:=List.length_pos_iff.2 hr;omega
 have q4:1<=R.length:=List.length_pos_iff.2 hr
 clear hr
 obtain ⟨Z,hZ⟩:=Ex (R.drop 1)
 rw [hZ] at e3 ⊢
 clear hZ
 go_enter func132,ntmps132
 go_wp2
 go_quiet (first | (go_at_call 133;exact Calls.quiet_of_same (HP.o _)))
 have oE:=HK.o
 have H2:=Hy (An (zj7 (y:=Z) (zj7 (y:=R) (zhr H.o nq))) (((Chg.refl (fun k=>k=b) w).drewN nq |>.setCell (p:=⟨b,0,none⟩) (fun _=>rfl) (.string ⟨R.toArray⟩)).setCell (p:=⟨b,0,none⟩) (fun _=>rfl) (.string ⟨Z.toArray⟩)))
 go_wp2
 obtain ⟨W,hW⟩:=Ex (((w.drewN nq).setCell ⟨b,0,none⟩ (.string ⟨R.toArray⟩)).setCell ⟨b,0,none⟩ (.string ⟨Z.toArray⟩))
 rw [hW] at H2 ⊢
 have c1:=zhq H2.o.1
 go_quiet (fail)
 go_wp2
 go_ret3
 exact ⟨rfl,zhr H2.o.1 nq,H2.o.2.drewN nq⟩
theorem zzz (r:List Av) (D:List (List Av)) (hg:GD (r :: D)) (b:Nat) (w:World) (h:zbI w b (nmL (r :: D)) 9):Calls prog 132 #[.pointer (some ⟨b,0,none⟩)] w (zhs (ptL r) (nmL D) true b 9 w):=by
 have hn:=zhk (hg.2.1 r Sm)
 have aH:nmL (r :: D)≠[]:=zhi (fun q hq=>zhk (hg.2.1 q hq)) Sm
 have e1:psL (nmL (r :: D))=ptL r:=zzj r D fun p hp=>((zeS (hg.2.1 r Sm).1).2 p hp).1
 have e2:rsL (nmL (r :: D))=nmL D:=by
  unfold rsL
  rw [e1,zj3,List.drop_left]
  by_cases hD:D=[]
  ·subst hD;rfl
  rw [zpc D hD];rfl
 have:=zzy (nmL (r :: D)) aH (by have:=hg.2.2;omega) b w h
 rw [e1,e2] at this
 exact this
theorem zzA (s:ByteArray) (w:World):Calls prog 94 #[.string s] w
  (fun e w'=>e=.returned (.func (.func 132) #[] #[.pointer (some ⟨w.heap.size,0,none⟩)])/\zbI w' w.heap.size s.data.toList 9/\Below w.heap.size w w'):=by
 have hs:=zbD s
 have hB:Below w.heap.size w (w.alloc (.cells #[.string s] 9)):=(Br w).alloc Lr _
 have hT:zbI (w.alloc (.cells #[.string s] 9)) w.heap.size s.data.toList 9 := by unfold zbI;rw [hs];exact heap_alloc_new w _
 have H:=Hy (An hT hB)
 clear hT hB hs
 go_enter func94,ntmps94
 go_wp2
 go_ret
 exact ⟨rfl,H.o.1,H.o.2⟩
theorem zzB (s:Bs) (X:Bs) (n:Nat) (h:noD s=(X,n)):(nrD s).isSome=(decide (n=0) && (X==s)):=by
 unfold nrD
 rw [h]
 by_cases h1:n=0
 ·by_cases h2:X=s
  ·subst h1 h2;simp
  have:((X,n):Bs × Nat)≠(s,0):=fun e=>h2 (Prod.mk.inj e).1
  rw [if_neg this];simp [h2]
 have:((X,n):Bs × Nat)≠(s,0):=fun e=>h1 (Prod.mk.inj e).2
 rw [if_neg this];simp [h1]
theorem zzC (s:ByteArray) (w:World) (he:zD w):Calls prog 93 #[.string s] w (zbE (nrD s.data.toList).isSome w):=by
 have HN:=Hy (zqm s w he)
 have HI:=Hy (zzB s.data.toList)
 obtain ⟨p,hp⟩:=Ex (noD s.data.toList)
 rw [hp] at HN HI
 obtain ⟨X,n⟩:=p
 clear he hp
 have H:=Hy (HI.o X n rfl)
 clear HI
 by_cases hn:n=0
 ·subst hn
  go_enter func93,ntmps93
  go_wp2_with fail
  refine HN.o.mono ?_
  rintro e w2 ⟨rfl,hb⟩
  go_wp2
  go_ret
  refine zbF ?_ hb
  rw [H.o]
  simp [ByteArray.toList_eq]
 have hq:((n:Int)==0)=false:=by rw [beq_eq_false_iff_ne];omega
 have HF:=Hy (show (nrD s.data.toList).isSome=false by rw [H.o];simp [hn])
 clear hn H
 go_enter func93,ntmps93
 go_wp2_with fail
 refine HN.o.mono ?_
 rintro e w2 ⟨rfl,hb⟩
 go_wp2
 go_ret
 exact zbF HF.o hb
theorem zpj (s:Bs) (b:Bool) (h:(nrD s).isSome=b) (w:World) (he:zD w):Calls prog 93 #[.string ⟨s.toArray⟩] w (zbE b w):=by
 have:=zzC ⟨s.toArray⟩ w he
 rw [<- h];exact this
theorem zzD (h:GD D) (k:Nat):GD (D.drop k):=(zfN (P:=D.take k) (by rw [List.take_append_drop];exact h)).2
theorem zzE {B:Nat} {w0:World} (hw:B<=w0.heap.size) (hb:Below B w0 w) (hB:B<=b) (h:Chg (fun k=>k=b) w w'):Below B w0 w' :=
 hb.trans (h.toBelow (Nat.le_trans hw hb.size) (fun k _ e=>e ▸ hB))
def zdG (p:Bs × Bool) (w:World) (en:Ending) (w':World):Prop:=en=.returned (.tuple #[.string ⟨p.1.toArray⟩,.bool p.2])/\Below w.heap.size w w'
theorem zeW {p:Bs × Bool} {b:Bool} (h:p=(a,b)) (hb:Below w.heap.size w w'):zdG p w (.returned (.tuple #[.string ⟨a.toArray⟩,.bool b])) w':=by subst h;exact ⟨rfl,hb⟩
def owL (s:Bs):Bs × Bs × Bool:=match nrD s with | some (r :: D)=>(ptL r,nmL D,true) | _=>([],[],false)
def zpk (p:Bs × Bs × Bool) (w:World) (en:Ending) (w':World):Prop:=en=.returned (.tuple #[.string ⟨p.1.toArray⟩,.string ⟨p.2.1.toArray⟩,.bool p.2.2])/\Below w.heap.size w w'
theorem zpl {p:Bs × Bs × Bool} {b:Bs} {c:Bool} (h:p=(a,b,c)) (hb:Below w.heap.size w w'):zpk p w (.returned (.tuple #[.string ⟨a.toArray⟩,.string ⟨b.toArray⟩,.bool c])) w':=by subst h;exact ⟨rfl,hb⟩
theorem zht (h:nrD s=none\/nrD s=some []):owL s=([],[],false):=by unfold owL;rcases h with h | h <;> rw [h]
theorem zj8 (h:nrD s=some (r :: D)):owL s=(ptL r,nmL D,true):=by unfold owL;rw [h]
theorem zzF (s:Bs):zw s=((owL s).2.1,(owL s).2.2):=by
 rcases zd7 s with h | ⟨r,D,h⟩
 ·rw [zho h,zht h]
 rw [zhp h,zj8 h]
theorem zzG (s:Bs):zbY s=((owL s).1,(owL s).2.2):=by
 rcases zd7 s with h | ⟨r,D,h⟩
 ·rw [zhn h,zht h]
 rw [zeV h,zj8 h]
theorem zpm (s:Bs) (w:World) (he:zD w):Calls prog 55 #[.string ⟨s.toArray⟩] w (zpk (owL s) w):=by
 by_cases h:nrD s=none
 ·have HI:=Hy (zpj s false (by rw [h];rfl) w he)
  have HO:=Hy (zht (.inl h))
  clear h he
  go_enter func55,ntmps55
  go_wp2_with fail
  refine HI.o.mono ?_
  rintro e w0 ⟨rfl,aE⟩
  go_wp2
  go_ret3
  exact zpl (a:=[]) (b:=[]) (c:=false) HO.o aE
 obtain ⟨D,h⟩:=Option.ne_none_iff_exists'.1 h
 have HI:=Hy (zpj s true (by rw [h];rfl) w he)
 obtain ⟨hs,hg⟩:=zaA h
 have HP:=Hy (zzA ⟨s.toArray⟩)
 change Hd (∀ w,Calls prog _ _ w (fun e w'=>e=.returned (.func (.func 132) #[] #[.pointer (some ⟨w.heap.size,0,none⟩)])/\zbI w' w.heap.size s 9/\Below w.heap.size w w')) at HP
 have hx:∃ p q b,owL s=(p,q,b)/\∀ B w,zbI w B s 9 -> Calls prog 132 #[.pointer (some ⟨B,0,none⟩)] w (zhs p q b B 9 w):=by
  cases D with
  | nil=>exact ⟨[],[],false,zht (.inr h),fun B w ht=>zzv B w (by rw [hs] at ht;exact ht)⟩
  | cons r D=>exact ⟨_,_,true,zj8 h,fun B w ht=>zzz r D hg B w (by rw [hs] at ht;exact ht)⟩
 obtain ⟨p,q,b,d7,jb⟩:=hx
 have fd:=Hy d7
 have oq:=Hy jb
 clear d7 jb hs hg h he
 go_enter func55,ntmps55
 go_wp2_with fail
 refine HI.o.mono ?_
 rintro e w0 ⟨rfl,aE⟩
 have H0:=Hy aE
 clear aE
 go_wp2_with fail
 refine (HP.o w0).mono ?_
 rintro e w1 ⟨rfl,ht,hb⟩
 have HC:=Hy (oq.o _ _ ht)
 have H1:=Hy (An H0.o.size (H0.o.trans (hb.mono H0.o.size)))
 clear ht hb
 go_wp2_with fail
 refine HC.o.mono ?_
 rintro e w2 ⟨rfl,wG,p7⟩
 have H2:=Hy (zzE Lr H1.o.2 H1.o.1 p7)
 clear wG p7
 go_wp2
 go_ret3
 exact zpl fd.o H2.o
theorem zpn (s:Bs) (w:World) (he:zD w):Calls prog 38 #[.string ⟨s.toArray⟩] w (zdG (zw s) w):=by
 have HO:=Hy (zpm s w he)
 have HE:=Hy (zzF s)
 obtain ⟨x,hx⟩:=Ex (owL s)
 rw [hx] at HO HE
 obtain ⟨p,q,b⟩:=x
 clear hx he
 go_enter func38,ntmps38
 exact zo8
theorem zpo (s:Bs) (w:World) (he:zD w):Calls prog 59 #[.string ⟨s.toArray⟩] w (zdG (zbY s) w):=by
 have HO:=Hy (zpm s w he)
 have HE:=Hy (zzG s)
 obtain ⟨x,hx⟩:=Ex (owL s)
 rw [hx] at HO HE
 obtain ⟨p,q,b⟩:=x
 clear hx he
 go_enter func59,ntmps59
 exact zo8
def zpp (n:Int) (w:World) (en:Ending) (w':World):Prop:=en=.returned (.int .i64 n)/\Below w.heap.size w w'
theorem zpq {n m:Int} (h:n=m) (hb:Below w.heap.size w w'):zpp n w (.returned (.int .i64 m)) w':=by subst h;exact ⟨rfl,hb⟩
end Go.Proofs.YtijglbolppkefaaGreatDoor

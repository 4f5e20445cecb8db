/- The document's parts of a name. -/
import Derived.Test.YtijglbolppkefaaGreatDoorDrGH
import Derived.Test.YtijglbolppkefaaGreatDoorMPlMN
import Derived.Test.YtijglbolppkefaaGreatDoorGenB
import Derived.Test.YtijglbolppkefaaGreatDoorMDqJ
import Derived.Test.YtijglbolppkefaaGreatDoorMEnAB
import Derived.Test.YtijglbolppkefaaGreatDoorSnAL
import Derived.Test.YtijglbolppkefaaGreatDoorEnQT
set_option linter.unusedVariables false
set_option linter.unusedSimpArgs false
set_option maxHeartbeats 25600000
set_option maxRecDepth 100000
namespace Go.Proofs.YtijglbolppkefaaGreatDoor
open Go.Proofs.Tryz
open Go Go.RowKit Go.Proofs.BerK Go.Proofs.MemK Go.Proofs.UtfK
variable {w w' : World} {v : Value} {B L l : List (Bs)} {e : TypeId} {n : Nat} {o : Option (List (Bs))} {b s : Bs} {D : List (List Av)}
theorem zoV {p:Prop} (h:p:=by
 go_wp2_with fail
 refine HP.o.mono ?_
 rintro e w1 ⟨v,rfl,ab,hb⟩
 obtain ⟨a,c,rfl⟩:=zh ab
 clear ab
 go_wp2
 go_ret2
 exact zeW (a:=[]) (b:=false) HO.o hb):p:=h
theorem zoW {p:Prop} (h:p:=by
 go_wp2_with fail
 refine (HQ.o _).mono ?_
 rintro e w2 ⟨rfl,ak⟩
 have bw:=Hy (HB.o.trans (ak.mono HB.o.size))
 clear ak
 go_wp2
 go_ret
 exact zbF HO.o bw.o):p:=h
theorem zoX {p:Prop} (h:p:=by
 go_wp2_with fail
 refine HP.o.mono ?_
 rintro e w1 ⟨rfl,hb⟩
 go_wp2
 go_ret2
 exact zeW (a:=[]) (b:=false) HO.o hb):p:=h
def zd3 (w:World) (v:Value) (l:List (Bs)):Prop :=
 ∃ a c,v=.slice a l.length c/\∀ i (hi:i<l.length),∃ g o,a=some ⟨g,o,none⟩/\g<w.heap.size/\w.cell? ⟨g,o+i,none⟩=some (.string ⟨l[i].toArray⟩)
theorem zyl (h:zd3 w v l) (hb:Below w.heap.size w w'):zd3 w' v l:=by
 obtain ⟨a,c,rfl,h⟩:=h
 refine ⟨a,c,rfl,fun i hi=>?_⟩
 obtain ⟨g,o,h1,h2,h3⟩:=h i hi
 exact ⟨g,o,h1,Nat.lt_of_lt_of_le h2 hb.size,(hb.cell (p:=⟨g,o+i,none⟩) h2).trans h3⟩
theorem zjT {B:Nat} (h:w.ownsRow B e 1 v l.length (sc l)):zd3 w v l:=by
 obtain ⟨a,c,hv,hc⟩:=zeC h
 refine ⟨a,c,hv,fun i hi=>?_⟩
 obtain ⟨g,h1,h2,h3⟩:=hc i hi
 exact ⟨g,0,h1,h2,by rw [Nat.zero_add];exact h3⟩
theorem zym {B:Nat} {g c c2:Nat} (h:w.ownsRow B e 1 (.slice (some ⟨g,0,none⟩) n c) l.length (sc l)) (o:Nat) (ho:o=1\/l.length<=1):zd3 w (.slice (some ⟨g,o,none⟩) (l.length - 1) c2) (l.drop 1):=by
 refine ⟨some ⟨g,o,none⟩,c2,by rw [List.length_drop],fun i hi=>?_⟩
 rw [List.length_drop] at hi
 obtain ⟨a,c',hv,hc⟩:=zeC h
 injection hv with dl _ _
 obtain ⟨g',h1,h2,h3⟩:=hc (i+1) Om
 rw [<- dl] at h1
 injection h1 with h1
 injection h1 with h1 _ _
 subst h1
 refine ⟨g,o,rfl,h2,?_⟩
 rw [show o+i=i+1 by omega,h3]
 simp [Nat.add_comm]
def zhb (o:Option (List (Bs))) (e:TypeId) (w:World) (en:Ending) (w':World):Prop :=
 match o with
 | none=>en=.returned (.tuple #[.slice none 0 0,.bool false])/\Below w.heap.size w w'
 | some L=>∃ v,en=.returned (.tuple #[v,.bool true])/\w'.ownsRow w.heap.size e 1 v L.length (sc L)/\Below w.heap.size w w'
theorem zyn (h:o=none) (hb:Below w.heap.size w w'):zhb o e w (.returned (.tuple #[.slice none 0 0,.bool false])) w':=by subst h;exact ⟨rfl,hb⟩
theorem zyo (h:o=some L) (h1:w'.ownsRow w.heap.size e 1 v L.length (sc L)) (hb:Below w.heap.size w w'):zhb o e w (.returned (.tuple #[v,.bool true])) w':=by subst h;exact ⟨v,rfl,h1,hb⟩
def psO (s:Bs):Option (List (Bs)):=(nrD s).map (·.map ptL)
theorem zyp {X:Bs} (h:noD s=(X,n)) (h2:n≠0\/X≠s):psO s=none:=by
 unfold psO
 rw [zzb];rfl
 rw [h]
 intro e
 obtain ⟨e1,e2⟩:=Prod.mk.inj e
 rcases h2 with h2 | h2
 ·exact h2 e2
 exact h2 e1
theorem zyq (h:noD s=(s,0)):∃ D,rdD s=(D,0)/\psO s=some (D.map ptL)/\D.length<=32/\∀ r∈D,prL r=true:=by
 obtain ⟨D,hD⟩:=zza h
 have h2:=hD
 unfold nrD at h2
 rw [if_pos h] at h2
 injection h2 with h2
 obtain ⟨_,hg⟩:=zaA hD
 refine ⟨D,?_,by unfold psO;rw [hD];rfl,hg.1,fun r hr=>(hg.2.1 r hr).1⟩
 have h3:=zhj D hg.1 (fun r hr=>(hg.2.1 r hr).1) hg.2.2
 rw [<- (zaA hD).1] at h3
 exact h3
theorem zeP (s:Bs) (w:World):Calls prog 53 #[.string ⟨s.toArray⟩] w (zhb (psO s) 9 w):=by
 have HN:=Hy (zl6 ⟨s.toArray⟩ w)
 change Hd (Calls prog _ _ w (zdo (noD s) w)) at HN
 obtain ⟨P,hP⟩:=Ex (noD s)
 rw [hP] at HN
 obtain ⟨X,n⟩:=P
 by_cases bJ:n≠0\/X≠s
 ·have HI:=Hy (zyp hP bJ)
  have hc:((n:Int) != 0)=true\/(((n:Int) != 0)=false/\(X==s)=false):=by
   by_cases hn:n=0
   ·refine .inr ⟨by rw [hn];rfl,?_⟩
    rw [beq_eq_false_iff_ne]
    rcases bJ with h | h
    ·exact absurd hn h
    exact h
   exact .inl (by rw [bne_iff_ne];omega)
  clear hP bJ
  rcases hc with q | ⟨q,q2⟩
  all_goals
   go_enter func53,ntmps53
   go_wp2_with fail
   refine HN.o.mono ?_
   rintro e w1 ⟨rfl,au⟩
   have HB:=Hy au
   clear au
   go_wp2
   go_ret2
   exact zyn HI.o HB.o
 rw [not_or,Decidable.not_not,Decidable.not_not] at bJ
 obtain ⟨rfl,rfl⟩:=bJ
 obtain ⟨D,dD,ei,GW,sf⟩:=zyq hP
 have HR:=Hy (fun w=>zgQ ⟨X.toArray⟩ w)
 change Hd (∀ w,Calls prog _ _ w (zeJ (rdD X) w)) at HR
 rw [dD] at HR
 have HI:=Hy ei
 have HD:=Hy sf
 clear hP dD ei sf
 go_enter func53,ntmps53
 go_wp2_with fail
 refine HN.o.mono ?_
 rintro e w1 ⟨rfl,au⟩
 have cr:=Hy au
 clear au
 go_wp2_with fail
 refine (HR.o w1).mono ?_
 rintro e w2 ⟨dv,rfl,hdn,ak⟩
 obtain ⟨da,dc,Bk,Bl,eW⟩:=id hdn
 change dv=.slice da D.length dc at Bk
 subst Bk
 have pZ:=Hy (An eW (cr.o.trans (ak.mono cr.o.size)))
 clear hdn eW ak
 go_wp2
 go_loopw [8,9] (fun o v wr=>∃ i:Nat,i<=D.length/\v=.int .i64 (i:Nat)/\wr.ownsRow w2.heap.size 9 1 o i (sc ((D.map ptL).take i))/\Below w2.heap.size w2 wr) (fun _ v _=>D.length - (intOf v).toNat)
 case atStart=>exact ⟨0,by omega,rfl,World.ownsRow_nil _ _ _ _,Br _⟩
 case round =>
  obtain ⟨i,hi,rfl,ab,hb⟩:=hrel
  obtain ⟨oa,oc,rfl⟩:=zh ab
  by_cases aj:i<D.length
  ·have cW:(i:Int)<(D.length:Int):=by omega
   obtain ⟨g,o,u,rfl,hg,aP,cH⟩:=pZ.o.1 i aj
   have e1:=(hb.cell (p:=⟨g,o+i,none⟩) hg).trans aP
   have kH:=zc1 cH hb
   obtain ⟨p1,p2,p3⟩:=zcv (HD.o _ (List.getElem_mem aj))
   have iU:=Hy (zll u D[i] p2 p3 wr kH)
   obtain ⟨ua,uc,hu,_⟩:=id kH
   subst hu
   have HS:=Hy (show sc ((D.map ptL).take (i+1))=sc ((D.map ptL).take i)++[.string ⟨(ptL D[i]).toArray⟩] by
    rw [List.take_succ_eq_append_getElem (by simpa using aj)];simp [sc])
   obtain ⟨r,hr⟩:=Ex (D[i])
   rw [hr] at iU HS e1 p2
   have H:=Hy (An ab hb)
   clear ab hb cH kH p1 p3 hr aP
   go_wp2_with fail
   refine iU.o.mono ?_
   rintro e w3 ⟨rfl,aK⟩
   have H3:=Hy (An (zu H.o.1 aK) (H.o.2.trans (aK.mono H.o.2.size)))
   clear aK
   go_wp2_with (at_builtin;refine zaj rfl (.tmp 33) (.tmp 39) 47 9 rfl w2.heap.size 1 16 (.string ByteArray.empty) Tryz.dninfo9 underlying47 rfl De 1 [.string ⟨(ptL r).toArray⟩] rfl ?c0 _ i _ rfl _ rfl ?c3 H3.o.1 ?c1 ?c2 H3.o.2.size ?_)
   case c0=>first | rfl | (intro u hu;simp at hu;subst hu;rfl)
   case c1=>unfold maxLen;omega
   case c2=>omega
   case c3=>first | rfl | simp
   intro v' w' g1 g2
   have g3:w'.ownsRow w2.heap.size 9 1 v' (i+1) (sc ((D.map ptL).take (i+1))):=by rw [HS.o];exact g1
   have H4:=Hy (An g3 (H3.o.2.trans g2))
   clear g1 g2 g3
   go_wp2
   exact ⟨⟨i+1,by omega,by go_num,H4.o.1,H4.o.2⟩,by simp [intOf];omega⟩
  obtain rfl:i=D.length:=by omega
  rw [List.take_of_length_le Sm] at ab
  have H:=Hy (An (zaK ab pZ.o.2.size) (pZ.o.2.trans (hb.mono pZ.o.2.size)))
  have HL:=Hy (show (D.map ptL).length=D.length by simp)
  clear ab hb
  go_wp2
  go_ret2
  exact zyo HI.o (by rw [HL.o];exact H.o.1) H.o.2
def whL (L:List (Bs)):Bs:=jnL 44 true L
theorem zhc (D:List (List Av)):nmL D=whL (D.map ptL):=rfl
theorem zyr (v:Value) (L:List (Bs)) (hL:(whL L).length<=1000000) (hn:L.length<=1000000) (w:World) (h:zd3 w v L):Calls prog 80 #[v] w (zcw (whL L) w):=by
 obtain ⟨a,c,hv,ae⟩:=id h
 subst hv
 have HH:=Hy ae
 have HJ:=Hy (ze9 44 L)
 obtain ⟨R,hR⟩:=Ex (whL L)
 have HR:=Hy hR
 rw [hR] at hL ⊢
 clear h ae hR
 go_enter func80,ntmps80
 go_wp2
 go_loop [3,4] (fun o v=>∃ (k:Nat) (X:Bs),k<=L.length/\v=.int .i64 (k:Nat)/\o=.string ⟨X.toArray⟩/\X++jnL 44 (decide (k=0)) (L.drop k)=R) (fun _ v=>L.length - (intOf v).toNat)
 case atStart=>exact ⟨0,[],by omega,rfl,rfl,HR.o⟩
 case round =>
  obtain ⟨k,X,hk,rfl,rfl,hinv⟩:=hrel
  by_cases aj:k<L.length
  ·have bh:(k:Int)<(L.length:Int):=by omega
   obtain ⟨g,o,rfl,hg,e1⟩:=HH.o k aj
   rw [HJ.o k aj] at hinv
   obtain ⟨x,hx⟩:=Ex (L[k])
   rw [hx] at e1 hinv
   have aF:=congrArg List.length hinv
   by_cases cX:k=0
   ·rw [if_pos cX,List.nil_append,<- List.append_assoc] at hinv
    rw [if_pos cX] at aF
    simp only [List.length_append,List.length_nil] at aF
    have rX:¬ (9223372036854775807<X.length+x.length):=by omega
    have q:¬ ((0:Int)<(k:Int)):=by omega
    have HI:=Hy hinv
    clear hinv aF cX hx
    go_wp2
    exact ⟨⟨k+1,X++x,by omega,by go_num,by rw [zaE],HI.o⟩,by simp [intOf];omega⟩
   rw [if_neg cX] at hinv aF
   simp only [List.length_append,List.length_cons,List.length_nil] at aF
   have rX:¬ (9223372036854775807<X.length+1+x.length):=by omega
   have eF:¬ (9223372036854775807<X.length+1):=by omega
   have q:((0:Int)<(k:Int)):=by omega
   have HI:=Hy (show (X++[44]++x)++jnL 44 (decide (k+1=0)) (L.drop (k+1))=R by rw [<- hinv];simp)
   clear hinv aF cX hx
   go_wp2
   exact ⟨⟨k+1,X++[44]++x,by omega,by go_num,by rw [show (⟨#[44]⟩:ByteArray)=⟨[44].toArray⟩ from rfl,zaE,zaE],HI.o⟩,by simp [intOf];omega⟩
  obtain rfl:k=L.length:=by omega
  rw [zfa,List.append_nil] at hinv
  have HI:=Hy hinv.symm
  clear hinv
  go_wp2
  go_ret
  exact ⟨by rw [HI.o];rfl,rfl⟩
def zcI (L B:List (Bs)):Bool:=decide (B.length<=L.length) && (L.drop (L.length - B.length)==B)
theorem zys (h:L.length<B.length):zcI L B=false:=by unfold zcI;simp;omega
theorem zyt (h:B.length<=L.length) (k:Nat) (hk:k<B.length) (aH:L[L.length - B.length+k]'Om≠B[k]):zcI L B=false:=by
 unfold zcI
 rw [Bool.and_eq_false_iff]
 right
 rw [beq_eq_false_iff_ne]
 intro e
 apply aH
 have:=congrArg (fun l=>l[k]?) e
 simp only [List.getElem?_drop] at this
 rw [List.getElem?_eq_getElem Om,List.getElem?_eq_getElem hk] at this
 exact Option.some.inj this
theorem zyu (h:B.length<=L.length) (ha:∀ k (hk:k<B.length),L[L.length - B.length+k]'Om=B[k]):zcI L B=true:=by
 unfold zcI
 rw [Bool.and_eq_true]
 refine ⟨by simpa using h,?_⟩
 rw [beq_iff_eq]
 apply List.ext_getElem So
 intro k h1 h2
 rw [List.getElem_drop]
 exact ha k h2
theorem zyv (v u:Value) (L B:List (Bs)) (xk:L.length<=1000000) (w:World) (h:zd3 w v L) (h2:zd3 w u B):Calls prog 54 #[v,u] w (zbE (zcI L B) w):=by
 obtain ⟨a,c,hv,ae⟩:=id h
 obtain ⟨a2,c2,hu,jj⟩:=id h2
 subst hv hu
 have HH:=Hy (An ae jj)
 obtain ⟨m,hm⟩:=Ex B.length
 obtain ⟨n,hn⟩:=Ex L.length
 by_cases fJ:n<m
 ·have HR:=Hy (zys (L:=L) (B:=B) Om)
  have q:(n:Int)<(m:Int):=by omega
  rw [hm,hn]
  clear h h2 ae jj fJ hm hn
  go_enter func54,ntmps54
  go_wp2
  go_ret
  exact zbF HR.o (Br _)
 have HE:=Hy (fun k hk=>zyt (L:=L) (B:=B) Om k hk)
 have HA:=Hy (zyu (L:=L) (B:=B) Om)
 have q:¬ (n:Int)<(m:Int):=by omega
 have HMN:=Hy (An hm hn)
 obtain ⟨R,hR⟩:=Ex (zcI L B)
 rw [hR] at HE HA ⊢
 rw [hm,hn]
 clear h h2 ae jj hR
 go_enter func54,ntmps54
 go_wp2
 go_loopw [5] (fun v wr=>∃ k:Nat,k<=m/\v=.int .i64 (k:Nat)/\Below w.heap.size w wr/\∀ j (hj:j<B.length),j<k->L[L.length - B.length+j]'(by omega)=B[j]) (fun v _=>m - (intOf v).toNat)
 case atStart=>exact ⟨0,by omega,rfl,Br _,fun j _ h=>by omega⟩
 case round =>
  obtain ⟨k,hk,rfl,hb,af⟩:=hrel
  by_cases aj:k<m
  ·have bh:(k:Int)<(m:Int):=by omega
   have hp:L.length - B.length+k<L.length:=by omega
   obtain ⟨g,o,rfl,hg,aP⟩:=HH.o.1 (L.length - B.length+k) hp
   obtain ⟨g2,o2,rfl,cf,cI⟩:=HH.o.2 k Om
   have e1:=(hb.cell (p:=⟨g,_,none⟩) hg).trans aP
   have e2:=(hb.cell (p:=⟨g2,_,none⟩) cf).trans cI
   have xt:=Hy (HE.o k Om)
   obtain ⟨z,hz⟩:=Ex (L.length - B.length+k)
   have hzi:(n:Int) - (m:Int)+(k:Int)=(z:Int):=by omega
   obtain ⟨x,hx⟩:=Ex (L[L.length - B.length+k])
   obtain ⟨y,hy⟩:=Ex (B[k]'Om)
   rw [hx,hz] at e1
   rw [hy] at e2
   rw [hx,hy] at xt
   have hzn:(z:Int)<(n:Int):=by omega
   have w1:IntKind.i64.wrap ((n:Int) - (m:Int))=(n:Int) - (m:Int):=by rw [IntKind.wrap_i64];omega
   have w2:IntKind.i64.wrap ((n:Int) - (m:Int)+(k:Int))=(z:Int):=by rw [IntKind.wrap_i64];omega
   have H:=Hy (An hb af)
   have jR:=Hy (An hx hy)
   clear hb af hx hy aP cI
   by_cases mO:x=y
   ·subst mO
    go_wp2_with fail
    go_quiet (fail)
    have eM:=Hy (zae H.o.1 nq)
    have du:=Hy (show ∀ j (hj:j<B.length),j<k+1->L[L.length - B.length+j]'(by have:=HMN.o;omega)=B[j] from fun j hj h=>by
     by_cases fB:j=k
     ·subst fB;exact jR.o.1.trans jR.o.2.symm
     exact H.o.2 j hj Om)
    go_wp2
    exact ⟨⟨k+1,by omega,by go_num,eM.o,du.o⟩,by simp [intOf];omega⟩
   have hq:(x==y)=false:=by rw [beq_eq_false_iff_ne];exact mO
   have HI:=Hy (xt.o mO)
   clear mO
   go_wp2_with fail
   go_quiet (fail)
   have eM:=Hy (zae H.o.1 nq)
   go_wp2
   go_ret
   exact zbF HI.o eM.o
  have HI:=Hy (An (HA.o fun j hj=>af j hj Om) hb)
  obtain rfl:k=m:=by omega
  clear af hb
  go_wp2
  go_ret
  exact zbF HI.o.1 HI.o.2
theorem zfK (h:nrD s=none):psO s=none:=by unfold psO;rw [h];rfl
theorem zd4 (h:nrD s=some D):psO s=some (D.map ptL):=by unfold psO;rw [h];rfl
theorem zyw {E:List (List Av)} (h1:nrD s=some D) (h2:nrD b=some E):zbq s b=zcI (D.map ptL) (E.map ptL):=by
 rw [Bool.eq_iff_iff]
 constructor
 ·intro h
  obtain ⟨P,F,a1,a2⟩:=zj5 h
  rw [h2] at a2
  obtain rfl:=Option.some.inj a2
  rw [h1] at a1
  obtain rfl:=Option.some.inj a1
  unfold zcI
  rw [Bool.and_eq_true]
  refine ⟨by simp,?_⟩
  rw [beq_iff_eq,List.map_append]
  simp
 intro h
 unfold zcI at h
 rw [Bool.and_eq_true,decide_eq_true_eq,beq_iff_eq] at h
 obtain ⟨hl,he⟩:=h
 obtain ⟨m,hm⟩:=Ex ((D.map ptL).length - (E.map ptL).length)
 rw [<- List.map_drop,hm] at he
 have hg:=(zaA h1).2
 have hx:=zj1 (zzD hg m) (zaA h2).2 (show nmL _=nmL E by rw [zhc,zhc,he])
 exact zpe (P:=D.take m) (by rw [<- hx,List.take_append_drop];exact h1) h2
theorem zoY (h:nrD s=none\/nrD b=none):zbq s b=false:=by
 cases hu:zbq s b with
 | false=>rfl
 | true =>
  obtain ⟨P,E,a1,a2⟩:=zj5 hu
  rcases h with h | h
  ·rw [h] at a1;cases a1
  rw [h] at a2;cases a2
theorem zyx (h:GD D):(whL (D.map ptL)).length<=1000000:=by have:=h.2.2;rw [zhc] at this;omega
theorem zyy (s:Bs) (w:World):Calls prog 47 #[.string ⟨s.toArray⟩] w (zpp (zd6 s) w):=by
 have HP:=Hy (zeP s w)
 by_cases h:nrD s=none
 ·have HO:=Hy (zpf h)
  rw [zfK h] at HP
  change Hd (Calls prog _ _ w fun en w'=>en=.returned (.tuple #[.slice none 0 0,.bool false])/\Below w.heap.size w w') at HP
  clear h
  go_enter func47,ntmps47
  go_wp2_with fail
  refine HP.o.mono ?_
  rintro e w1 ⟨rfl,hb⟩
  go_wp2
  go_ret
  exact zpq HO.o hb
 obtain ⟨D,h⟩:=Option.ne_none_iff_exists'.1 h
 have HO:=Hy (zj6 h)
 rw [zd4 h] at HP
 change Hd (Calls prog _ _ w fun en w'=>∃ v,en=.returned (.tuple #[v,.bool true])/\w'.ownsRow w.heap.size _ 1 v (D.map ptL).length (sc (D.map ptL))/\Below w.heap.size w w') at HP
 clear h
 go_enter func47,ntmps47
 go_wp2_with fail
 refine HP.o.mono ?_
 rintro e w1 ⟨v,rfl,ab,hb⟩
 obtain ⟨a,c,rfl⟩:=zh ab
 clear ab
 go_wp2
 go_ret
 exact zpq (by rw [HO.o];try simp) hb
theorem zyz (s:Bs) (w:World):Calls prog 48 #[.string ⟨s.toArray⟩] w (zdG (zw s) w):=by
 have HP:=Hy (zeP s w)
 rcases zd7 s with h | ⟨r,D,h⟩
 ·have HO:=Hy (zho h)
  have hp:psO s=none\/psO s=some []:=by
   rcases h with h | h
   ·exact .inl (zfK h)
   exact .inr (zd4 h)
  rcases hp with hp | hp
  ·rw [hp] at HP
   change Hd (Calls prog _ _ w fun en w'=>en=.returned (.tuple #[.slice none 0 0,.bool false])/\Below w.heap.size w w') at HP
   clear h hp
   go_enter func48,ntmps48
   exact zoX
  rw [hp] at HP
  change Hd (Calls prog _ _ w fun en w'=>∃ v,en=.returned (.tuple #[v,.bool true])/\w'.ownsRow w.heap.size _ 1 v 0 []/\Below w.heap.size w w') at HP
  clear h hp
  go_enter func48,ntmps48
  exact zoV
 have HO:=Hy (zhp h)
 obtain ⟨hs,hg⟩:=zaA h
 have kO:=zyx (zeU hg).2
 have li:(D.map ptL).length<=1000000:=by have:=hg.1;simp at this ⊢;omega
 rw [zd4 h] at HP
 rw [List.map_cons] at HP
 obtain ⟨L,hL⟩:=Ex (D.map ptL)
 have iq:=Hy (show nmL D=whL L by rw [zhc,hL])
 rw [hL] at HP kO li
 obtain ⟨x,hx⟩:=Ex (ptL r)
 rw [hx] at HP
 change Hd (Calls prog _ _ w fun en w'=>∃ v,en=.returned (.tuple #[v,.bool true])/\w'.ownsRow w.heap.size _ 1 v (x :: L).length (sc (x :: L))/\Below w.heap.size w w') at HP
 clear h hs hg hL hx
 go_enter func48,ntmps48
 go_wp2_with fail
 refine HP.o.mono ?_
 rintro e w1 ⟨v,rfl,ab,hb⟩
 rcases ab.2 with ⟨_,h0⟩ | ⟨g,cap,cur,hv,_,hgg,f9,_⟩
 ·exact absurd h0 Sm
 subst hv
 have A8:L.length+1<=cap:=by simpa using f9
 have eX:(1:Int)<=(L.length:Int)+1:=by omega
 have HB:=Hy hb
 have hT:∀ o c2,(o=1\/(x :: L).length<=1)->Calls prog 80 #[.slice (some ⟨g,o,none⟩) L.length c2] w1 (zcw (whL L) w1):=fun o c2 ho=>by
  have:=zym (c2:=c2) ab o ho
  simp only [List.length_cons,Nat.add_sub_cancel,List.drop_succ_cons,List.drop_zero] at this
  exact zyr _ L kO li w1 this
 have HT:=Hy hT
 clear ab hb hgg f9 hT
 have bM:cap=1\/¬ cap=1:=Decidable.em _
 rcases bM with bM | bM
 ·have oI:(x :: L).length<=1:=by show L.length+1<=1;omega
  have MZ:L=[]:=List.eq_nil_of_length_eq_zero Om
  have nK:Hd (Calls prog 80 #[.slice (some ⟨g,0,none⟩) 0 0] w1 (zcw (whL L) w1)):=Hy (by have:=HT.o 0 0 (.inr oI);rw [MZ] at this ⊢;exact this)
  subst bM
  clear MZ
  go_wp2_with (go_at_call 80;(with_reducible refine nK.o.mono ?_);rintro e w2 ⟨rfl,hw⟩;obtain rfl:=hw.symm;clear hw)
  go_ret2
  exact zeW (by rw [HO.o,iq.o]) HB.o
 go_wp2_with (go_at_call 80;(with_reducible refine (HT.o 1 _ (.inl rfl)).mono ?_);rintro e w2 ⟨rfl,hw⟩;obtain rfl:=hw.symm;clear hw)
 go_ret2
 exact zeW (by rw [HO.o,iq.o]) HB.o
theorem zyA (s:Bs) (w:World):Calls prog 85 #[.string ⟨s.toArray⟩] w (zdG (zbY s) w):=by
 have HP:=Hy (zeP s w)
 rcases zd7 s with h | ⟨r,D,h⟩
 ·have HO:=Hy (zhn h)
  have hp:psO s=none\/psO s=some []:=by
   rcases h with h | h
   ·exact .inl (zfK h)
   exact .inr (zd4 h)
  rcases hp with hp | hp
  ·rw [hp] at HP
   change Hd (Calls prog _ _ w fun en w'=>en=.returned (.tuple #[.slice none 0 0,.bool false])/\Below w.heap.size w w') at HP
   clear h hp
   go_enter func85,ntmps85
   exact zoX
  rw [hp] at HP
  change Hd (Calls prog _ _ w fun en w'=>∃ v,en=.returned (.tuple #[v,.bool true])/\w'.ownsRow w.heap.size _ 1 v 0 []/\Below w.heap.size w w') at HP
  clear h hp
  go_enter func85,ntmps85
  exact zoV
 have HO:=Hy (zeV h)
 rw [zd4 h] at HP
 rw [List.map_cons] at HP
 obtain ⟨L,hL⟩:=Ex (D.map ptL)
 rw [hL] at HP
 obtain ⟨x,hx⟩:=Ex (ptL r)
 rw [hx] at HP HO
 change Hd (Calls prog _ _ w fun en w'=>∃ v,en=.returned (.tuple #[v,.bool true])/\w'.ownsRow w.heap.size _ 1 v (x :: L).length (sc (x :: L))/\Below w.heap.size w w') at HP
 clear h hL hx
 go_enter func85,ntmps85
 go_wp2_with fail
 refine HP.o.mono ?_
 rintro e w1 ⟨v,rfl,ab,hb⟩
 obtain ⟨a,c,hv,hc⟩:=zjT ab
 obtain ⟨g,o,rfl,hg,e1⟩:=hc 0 Sm
 simp only [List.length_cons,List.getElem_cons_zero,Nat.add_zero] at hv e1
 subst hv
 have kV:(0:Int)<(L.length:Int)+1:=by omega
 have HB:=Hy hb
 clear ab hb hc
 go_wp2
 go_ret2
 exact zeW HO.o HB.o
theorem zyB (s b:Bs) (w:World):Calls prog 37 #[.string ⟨s.toArray⟩,.string ⟨b.toArray⟩] w (zbE (zbq s b) w):=by
 have HP:=Hy (zeP s w)
 have HQ:=Hy (fun w=>zeP b w)
 by_cases h:nrD s=none
 ·have HO:=Hy (zoY (b:=b) (.inl h))
  rw [zfK h] at HP
  change Hd (Calls prog _ _ w fun en w'=>en=.returned (.tuple #[.slice none 0 0,.bool false])/\Below w.heap.size w w') at HP
  obtain ⟨o,ho⟩:=Ex (psO b)
  rw [ho] at HQ
  clear h ho
  go_enter func37,ntmps37
  go_wp2_with fail
  refine HP.o.mono ?_
  rintro e w1 ⟨rfl,hb⟩
  have HB:=Hy hb
  clear hb
  cases o with
  | none =>
   change Hd (∀ w,Calls prog _ _ w fun en w'=>en=.returned (.tuple #[.slice none 0 0,.bool false])/\Below w.heap.size w w') at HQ
   exact zoW
  | some L =>
   change Hd (∀ w,Calls prog _ _ w fun en w'=>∃ v,en=.returned (.tuple #[v,.bool true])/\w'.ownsRow w.heap.size _ 1 v L.length (sc L)/\Below w.heap.size w w') at HQ
   go_wp2_with fail
   refine (HQ.o _).mono ?_
   rintro e w2 ⟨v,rfl,ab,ak⟩
   obtain ⟨a,c,rfl⟩:=zh ab
   have bw:=Hy (HB.o.trans (ak.mono HB.o.size))
   clear ak ab
   go_wp2
   go_ret
   exact zbF HO.o bw.o
 obtain ⟨D,h⟩:=Option.ne_none_iff_exists'.1 h
 have EG:(D.map ptL).length<=1000000:=by have:=(zaA h).2.1;simp;omega
 rw [zd4 h] at HP
 obtain ⟨L,hL⟩:=Ex (D.map ptL)
 rw [hL] at HP EG
 change Hd (Calls prog _ _ w fun en w'=>∃ v,en=.returned (.tuple #[v,.bool true])/\w'.ownsRow w.heap.size _ 1 v L.length (sc L)/\Below w.heap.size w w') at HP
 by_cases h2:nrD b=none
 ·have HO:=Hy (zoY (s:=s) (.inr h2))
  rw [zfK h2] at HQ
  change Hd (∀ w,Calls prog _ _ w fun en w'=>en=.returned (.tuple #[.slice none 0 0,.bool false])/\Below w.heap.size w w') at HQ
  clear h h2 hL
  go_enter func37,ntmps37
  go_wp2_with fail
  refine HP.o.mono ?_
  rintro e w1 ⟨v,rfl,ab,hb⟩
  obtain ⟨a,c,rfl⟩:=zh ab
  have HB:=Hy hb
  clear hb ab
  exact zoW
 obtain ⟨E,h2⟩:=Option.ne_none_iff_exists'.1 h2
 rw [zd4 h2] at HQ
 have HO:=Hy (zyw h h2)
 obtain ⟨M,hM⟩:=Ex (E.map ptL)
 rw [hM] at HQ HO
 rw [hL] at HO
 change Hd (∀ w,Calls prog _ _ w fun en w'=>∃ v,en=.returned (.tuple #[v,.bool true])/\w'.ownsRow w.heap.size _ 1 v M.length (sc M)/\Below w.heap.size w w') at HQ
 clear h h2 hL hM
 go_enter func37,ntmps37
 go_wp2_with fail
 refine HP.o.mono ?_
 rintro e w1 ⟨v,rfl,ab,hb⟩
 obtain ⟨a,c,rfl⟩:=zh ab
 have HB:=Hy (An hb (zjT ab))
 clear hb ab
 go_wp2_with fail
 refine (HQ.o _).mono ?_
 rintro e w2 ⟨v2,rfl,bg,ak⟩
 obtain ⟨a2,c2,rfl⟩:=zh bg
 have HE:=Hy (zyv _ _ L M EG w2 (zyl HB.o.2 ak) (zjT bg))
 have bw:=Hy (HB.o.1.trans (ak.mono HB.o.1.size))
 clear ak bg
 go_wp2_with fail
 refine HE.o.mono ?_
 rintro e w3 ⟨rfl,aK⟩
 have cx:=Hy (bw.o.trans (aK.mono bw.o.size))
 clear aK
 go_wp2
 go_ret
 exact zbF HO.o cx.o
end Go.Proofs.YtijglbolppkefaaGreatDoor
namespace Go.Proofs.YtijglbolppkefaaGreatDoor
open Go.Proofs.Tryz
open Go Go.Sort Go.Proofs.BerK
variable {A : List Atr} {k m : Nat}
def nmN (A:List Atr):List (Bs):=onL ((A.filter fun a => !a.2.isEmpty).map fun a=>za a.1)
def gaL (A:List Atr):List Atr:=(nmN A).map fun n=>(n,vaL A n)
theorem zoZ (A:List Atr):(nmN A).Nodup:=zjt _
theorem zeQ {n:Bs}:n∈nmN A ↔ vaL A n≠[]:=by
 have:=zjv (A:=A) (n:=n)
 unfold zeH at this
 rw [zof] at this
 exact this
theorem zdE (A:List Atr):(gaL A).length=(nmN A).length:=by simp [gaL]
theorem zo0 (l:List (Bs)):(onL l).length<=l.length:=by
 have:=zjJ l l.length
 rw [List.take_length] at this
 exact this
theorem zo1 (A:List Atr):(nmN A).length<=A.length:=by
 have h:=zo0 ((A.filter fun a => !a.2.isEmpty).map fun a=>za a.1)
 have h2:(A.filter fun a => !a.2.isEmpty).length<=A.length:=List.length_filter_le _ _
 rw [List.length_map] at h
 unfold nmN
 omega
theorem zyC:nmN []=[]:=rfl
theorem zyD:gaL []=[]:=rfl
theorem zo2 (i:Nat) (hi:i<A.length) (he:A[i].2=[]):nmN (A.take (i+1))=nmN (A.take i):=by
 unfold nmN
 rw [List.take_succ_eq_append_getElem hi,List.filter_append]
 simp [he]
theorem zyE (i:Nat) (hi:i<A.length) (he:A[i].2=[]):gaL (A.take (i+1))=gaL (A.take i):=by
 unfold gaL
 rw [zo2 i hi he]
 refine List.map_congr_left fun n _=>?_
 rw [zfF i hi,he,List.append_nil,ite_self]
theorem zo3 (i:Nat) (hi:i<A.length) (he:A[i].2≠[]):nmN (A.take (i+1))=zn (nmN (A.take i)) (za A[i].1):=by
 unfold nmN
 rw [List.take_succ_eq_append_getElem hi,List.filter_append,List.map_append]
 have:([A[i]].filter fun a => !a.2.isEmpty).map (fun a=>za a.1)=[za A[i].1]:=by
  have:A[i].2.isEmpty=false:=by simpa using he
  simp [this]
 rw [this,zod]
theorem zjU (i:Nat) (hi:i<A.length) (he:A[i].2≠[]) {j:Nat} (hj:ixL (nmN (A.take i)) (za A[i].1)=some j):nmN (A.take (i+1))=nmN (A.take i):=by
 rw [zo3 i hi he]
 unfold zn
 rw [if_pos (zjP hj)]
theorem zo4 (i:Nat) (hi:i<A.length) (he:A[i].2≠[]) (hj:ixL (nmN (A.take i)) (za A[i].1)=none):nmN (A.take (i+1))=nmN (A.take i)++[za A[i].1]:=by
 rw [zo3 i hi he]
 unfold zn
 rw [if_neg (by rw [zjQ hj];simp)]
theorem zyF (i:Nat) (hi:i<A.length) (he:A[i].2≠[]) {j:Nat} (hj:ixL (nmN (A.take i)) (za A[i].1)=some j) :
  ∃ hl:j<(gaL (A.take i)).length,(gaL (A.take i))[j].1=za A[i].1/\gaL (A.take (i+1))=(gaL (A.take i)).set j (za A[i].1,(gaL (A.take i))[j].2++A[i].2):=by
 obtain ⟨hl,e⟩:=zdg hj
 have eF:j<(gaL (A.take i)).length:=by rw [zdE];exact hl
 refine ⟨eF,by simp [gaL,e],?_⟩
 refine List.ext_getElem (by rw [List.length_set,zdE,zdE,zjU i hi he hj]) fun m h1 h2=>?_
 rw [List.length_set] at h2
 have hm:m<(nmN (A.take i)).length:=by rw [zdE] at h2;exact h2
 have em:(gaL (A.take (i+1)))[m]=((nmN (A.take i))[m],vaL (A.take (i+1)) (nmN (A.take i))[m]):=by
  simp [gaL,zjU i hi he hj]
 rw [em,zfF i hi,List.getElem_set]
 by_cases q:j=m
 ·subst q
  rw [if_pos rfl,e,if_pos Sm]
  simp [gaL,e]
 rw [if_neg q,if_neg]
 ·simp [gaL]
 intro h
 have h:za A[i].1=(nmN (A.take i))[m]:=by simpa using h
 exact q ((List.getElem_inj (zoZ (A.take i))).1 (e.trans h))
theorem zyG (i:Nat) (hi:i<A.length) (he:A[i].2≠[]) (hj:ixL (nmN (A.take i)) (za A[i].1)=none) :
  gaL (A.take (i+1))=gaL (A.take i)++[(za A[i].1,A[i].2)]:=by
 unfold gaL
 rw [zo4 i hi he hj,List.map_append]
 congr 1
 ·refine List.map_congr_left fun n hn=>?_
  rw [zfF i hi,if_neg]
  intro h
  have h:za A[i].1=n:=by simpa using h
  rw [<- h] at hn
  exact zfH hj hn
 have hv:vaL (A.take i) (za A[i].1)=[]:=by
  by_cases e:vaL (A.take i) (za A[i].1)=[]
  ·exact e
  exact absurd (zeQ.2 e) (zfH hj)
 rw [List.map_singleton,zfF i hi,hv]
 simp
def gcL (A:List Atr):List Atr:=(gaL A).map fun p=>(p.1,onL p.2)
theorem zyH {p:Atr}:p∈gcL A ↔ p.2=onL (vaL A p.1)/\p.2≠[]:=by
 unfold gcL gaL
 simp only [List.map_map,List.mem_map,Function.comp]
 constructor
 ·rintro ⟨n,hn,rfl⟩
  exact ⟨rfl,fun e=>zeQ.1 hn (zdw.1 e)⟩
 rintro ⟨h1,h2⟩
 exact ⟨p.1,zeQ.2 (fun e=>h2 (by rw [h1,e];rfl)),by rw [<- h1]⟩
theorem zyI (A:List Atr):(gcL A).map (·.1)=nmN A:=by
 unfold gcL gaL
 simp [Function.comp_def]
theorem zyJ {M:List Atr} (hp:M.Perm (gcL A)) (hs:M.Pairwise (fun p q=>¬ q.1<p.1)):M=clA A:=by
 refine zjw ⟨?_,fun p=>by rw [hp.mem_iff];exact zyH⟩
 have hn:(M.map (·.1)).Nodup:=((hp.map (·.1)).nodup_iff).2 (by rw [zyI];exact zoZ A)
 have kE:M.Pairwise (fun p q=>p.1≠q.1):=List.pairwise_map.1 hn
 refine (hs.and kE).imp fun {a b} h=>?_
 rcases Decidable.em (a.1<b.1) with h5 | h5
 ·exact h5
 exact absurd (List.le_antisymm (List.not_lt.1 h.1) (List.not_lt.1 h5)) h.2
def za3 (m k:Nat) (A:List Atr):Prop:=A.length<=m/\∀ a∈A,a.1.length<=100000/\a.2.length<=k/\∀ s∈a.2,s.length<=100000
theorem zyK (h:∀ a∈A,a.2.length<=k) (n:Bs):(vaL A n).length<=k*A.length:=by
 induction A with
 | nil=>simp [vaL]
 | cons a A ih =>
  have h1:=ih (fun b hb=>h b (List.mem_cons_of_mem _ hb))
  have h2:=h a Sm
  rw [List.length_cons,Nat.mul_add,Nat.mul_one]
  unfold vaL at *
  rw [List.filter_cons]
  split
  ·simp only [List.flatMap_cons,List.length_append];omega
  omega
theorem zjV {m' k':Nat} (h:za3 m k A) (h1:m<=m') (h2:k<=k'):za3 m' k' A :=
 ⟨Nat.le_trans h.1 h1,fun a ha=>⟨(h.2 a ha).1,Nat.le_trans (h.2 a ha).2.1 h2,(h.2 a ha).2.2⟩⟩
theorem zyL (h:za3 m k A) (h1:m<=1000) (h2:k<=1000):zdB A:=zjV h h1 h2
theorem zo5 (h:za3 m k A) (i:Nat):za3 m k (A.take i) :=
 ⟨by rw [List.length_take];have:=h.1;omega,fun a ha=>h.2 a (List.mem_of_mem_take ha)⟩
theorem zo6 (h:za3 m k A) (n:Bs):(vaL A n).length<=k*m/\∀ s∈vaL A n,s.length<=100000 :=
 ⟨Nat.le_trans (zyK (fun a ha=>(h.2 a ha).2.1) n) (Nat.mul_le_mul_left _ h.1),fun s hs=>by
  obtain ⟨a,ha,hsa⟩:=zoE hs
  exact (h.2 a ha).2.2 s hsa⟩
theorem zo7 (h:za3 m k A) {n:Bs} (hn:n∈nmN A):n.length<=100000:=by
 obtain ⟨a,ha,_,e⟩:=zgN.1 (zeQ.1 hn)
 rw [<- e]
 have:=(h.2 a ha).1
 simpa [za] using this
theorem zyM (h:za3 m k A):za3 m (k*m) (gaL A):=by
 refine ⟨by rw [zdE];exact Nat.le_trans (zo1 A) h.1,fun p hp=>?_⟩
 unfold gaL at hp
 obtain ⟨n,hn,rfl⟩:=List.mem_map.1 hp
 exact ⟨zo7 h hn,zo6 h n⟩
theorem zhd (h:za3 m k A):za3 m (k*m) (clA A):=by
 refine ⟨?_,fun p hp=>?_⟩
 ·have e:(clA A).length=(nmN A).length:=by
   unfold clA zeH nmN zdY
   rw [List.length_map,List.length_mergeSort]
  rw [e]
  exact Nat.le_trans (zo1 A) h.1
 obtain ⟨h1,h2⟩:=(zbX A).2 p |>.1 hp
 have hv:vaL A p.1≠[]:=fun e=>h2 (by rw [h1,e];rfl)
 obtain ⟨h3,h4⟩:=zo6 h p.1
 refine ⟨zo7 h (zeQ.2 hv),by rw [h1];exact Nat.le_trans (zo0 _) h3,fun s hs=>?_⟩
 rw [h1,zju] at hs
 exact h4 s hs
end Go.Proofs.YtijglbolppkefaaGreatDoor
namespace Go.Proofs.MemK
open Go Go.RowKit Go.Proofs.BerK
theorem zjW {P:Program} {ops:Array Oper} {o:Oper} {a:Act} {w:World} {K:Act->World->Prop} {Q:Exit->Act->World->Prop} {E:Prop}
  (dJ:o.guard=none) (s x:Operand) (t e:TypeId) (ho:o.op=Op.call { callee:=Callee.builtin Builtin.append,args:=#[s,x],argTypes:=#[t,t] })
  (base size bytes:Nat) (z:Value) (h5:(P.info? e).map (fun i=>(i.zero,i.size,i.bytes))=some (some z,size,bytes)) (ht:P.underlying t=some (.slice e)) (jf:z.cells.size=size) (aW:0<size)
  (v:Value) (n:Nat) (xs:List Value) (hs:a.eval s=v) (ab:w.ownsRow base e size v n xs)
  (vx:Value) (m:Nat) (us:List Value) (hx:a.eval x=vx) (dD:zbl w size vx m us) (hm:0<m) (hu:∀ u∈us,u.oneCell'=true)
  (mf:n+m<=maxLen) (cd:(n+m)*bytes<=140737488355328) (c8:base<=w.heap.size)
  (h:∀ v' w',w'.ownsRow base e size v' (n+m) (xs++us)->Chg (fun k=>some k=v.ownBlock) w w'->(v'.ownBlock=v.ownBlock\/∃ k,v'.ownBlock=some k/\w.heap.size<=k)->K (a.put o.dst v') w') :
  if Region.wanted o (yielded ops a.tmps)=true then Oper.wp P o a w K Q else E:=by
 have hw:Region.wanted o (yielded ops a.tmps)=true:=by simp [Region.wanted,dJ]
 rw [if_pos hw]
 obtain ⟨i,hi,bO,bi,ce⟩:=info_parts h5
 rcases dD.2 with ⟨_,h0⟩ | ⟨ad,c,rfl,hc⟩
 ·omega
 obtain ⟨v',w',hr,h2,h3,_,h4⟩:=run_append_own_at (P:=P) w base t o.type e i z size bytes ht hi bO bi ce jf aW v n xs ab ad m c us dD.1 hc hu mf cd c8
 unfold Oper.wp execOp
 simp only [ho,resolve,invoke,builtin,Sem.run_bind,Sem.run_pure,Result.andThen_ok,List.map_toArray,List.map_cons,List.map_nil,hs,hx,hr]
 refine h v' w' h2 (Chg.ofGrown h3) ?_
 rcases h4 with h4 | h4
 ·exact .inl h4
 exact .inr ⟨_,h4,Nat.le_refl _⟩
end Go.Proofs.MemK
namespace Go.Proofs.YtijglbolppkefaaGreatDoor
open Go.Proofs.Tryz
open Go Go.RowKit Go.Proofs.BerK Go.Proofs.MemK Go.Proofs.UtfK
variable {w w' w0 : World} {B c g n s : Nat} {Lq : List (Bs × Value)} {L : List Atr} {e : TypeId} {ov v v' : Value} {xs : List Value} {N : List (Bs)}
def zcJ (w:World) (B:Nat) (Lq:List (Bs × Value)) (L:List Atr):Prop :=
 Lq.length=L.length/\(∀ i (h1:i<Lq.length) (h2:i<L.length),Lq[i].1=L[i].1/\w.ownsRow B 9 1 Lq[i].2 L[i].2.length (sc L[i].2))/\∀ i j (h1:i<Lq.length) (h2:j<Lq.length),i≠j->zaq Lq[i].2 Lq[j].2
theorem zyN (w:World) (B:Nat):zcJ w B [] []:=⟨rfl,fun i h=>by simp at h,fun i j h=>by simp at h⟩
theorem zhe {S:Nat->Prop} (h:zcJ w B Lq L) (hc:Chg S w w') (hs:∀ i (hi:i<Lq.length) k,Lq[i].2.ownBlock=some k->¬ S k):zcJ w' B Lq L :=
 ⟨h.1,fun i h1 h2=>⟨(h.2.1 i h1 h2).1,zz (h.2.1 i h1 h2).2 hc (hs i h1)⟩,h.2.2⟩
theorem zyO (h:zcJ w B Lq L) (hb:Below w.heap.size w w'):zcJ w' B Lq L :=
 zhe h (Chg.ofBelow (S:=fun _=>False) hb) (fun _ _ _ _ h=>h)
theorem zyP (h:zcJ w B Lq L):zad w Lq L :=
 ⟨h.1,fun i h1 h2=>⟨(h.2.1 i h1 h2).1,B,(h.2.1 i h1 h2).2⟩⟩
theorem zyQ (h:zcJ w B Lq L) (n:Bs):zcJ w B (Lq++[(n,.slice none 0 0)]) (L++[(n,[])]):=by
 have hl:=h.1
 refine ⟨by simp [hl],fun i h1 h2=>?_,fun i j h1 h2 oA=>?_⟩
 ·by_cases hi:i<L.length
  ·rw [List.getElem_append_left Om,List.getElem_append_left hi]
   exact h.2.1 i Om hi
  rw [List.length_append] at h1 h2
  simp only [List.length_cons,List.length_nil] at h1 h2
  rw [List.getElem_append_right Om,List.getElem_append_right Om]
  have e1:i - Lq.length=0:=by omega
  have e2:i - L.length=0:=by omega
  simp only [e1,e2,List.getElem_cons_zero]
  exact ⟨trivial,World.ownsRow_nil _ _ _ _⟩
 rw [List.length_append] at h1 h2
 simp only [List.length_cons,List.length_nil] at h1 h2
 by_cases hi:i<Lq.length
 ·rw [List.getElem_append_left hi]
  by_cases hj:j<Lq.length
  ·rw [List.getElem_append_left hj]
   exact h.2.2 i j hi hj oA
  rw [List.getElem_append_right Om]
  have e2:j - Lq.length=0:=by omega
  simp only [e2,List.getElem_cons_zero]
  exact znN _
 rw [List.getElem_append_right Om]
 have e1:i - Lq.length=0:=by omega
 simp only [e1,List.getElem_cons_zero]
 exact zjd _
theorem zyR (h:zcJ w B Lq L) (j:Nat) (hj:j<Lq.length) (t:Bs) (ht:Lq[j].1=t) (V:List (Bs)) (v:Value)
  (hv:w'.ownsRow B 9 1 v V.length (sc V)) (hc:Chg (fun k=>some k=Lq[j].2.ownBlock) w w') (ho:v.ownBlock=Lq[j].2.ownBlock\/∃ k,v.ownBlock=some k/\w.heap.size<=k):zcJ w' B (Lq.set j (t,v)) (L.set j (t,V)):=by
 have hl:=h.1
 have hn:∀ i (hi:i<Lq.length),i≠j->zaq Lq[i].2 v:=fun i hi oA=>zdd (h.2.2 i j hi hj oA) (h.2.1 i hi Om).2 ho
 refine ⟨by simp [hl],fun i h1 h2=>?_,fun i k h1 h2 kG=>?_⟩
 ·rw [List.length_set] at h1 h2
  rw [List.getElem_set,List.getElem_set]
  by_cases q:j=i
  ·rw [if_pos q,if_pos q]
   exact ⟨rfl,hv⟩
  rw [if_neg q,if_neg q]
  refine ⟨(h.2.1 i h1 h2).1,zz (h.2.1 i h1 h2).2 hc fun b hb hk=>?_⟩
  exact h.2.2 i j h1 hj (fun e=>q e.symm) b hb hk.symm
 rw [List.length_set] at h1 h2
 rw [List.getElem_set,List.getElem_set]
 by_cases q:j=i
 ·rw [if_pos q,if_neg Om]
  exact (hn k h2 Om).symm
 rw [if_neg q]
 by_cases q2:j=k
 ·rw [if_pos q2]
  exact hn i h1 Om
 rw [if_neg q2]
 exact h.2.2 i k h1 h2 kG
theorem zyS (Lq:List (Bs × Value)) (j:Nat) (hj:j<Lq.length) (v:Value):(zm Lq).set (j*2+1) v=zm (Lq.set j (Lq[j].1,v)):=by
 induction Lq generalizing j with
 | nil=>simp at hj
 | cons c Lq ih =>
  have e:∀ c (L:List (Bs × Value)),zm (c :: L)=.string ⟨c.1.toArray⟩ :: c.2 :: zm L:=fun _ _=>rfl
  cases j with
  | zero=>simp only [List.set_cons_zero,List.getElem_cons_zero,e];rfl
  | succ j =>
   have iG:j<Lq.length:=by simpa using hj
   rw [List.set_cons_succ,e,e,show (j+1)*2+1=j*2+1+1+1 by omega,List.set_cons_succ,List.set_cons_succ,ih j iG]
   rfl
theorem zeR {B' s' n':Nat} {e':TypeId} {xs':List Value} (h:w.ownsRow B e s v n xs) (h':w.ownsRow B' e' s' v' n' xs') (aH:e≠e') (k:Nat) (hk:v.ownBlock=some k):v'.ownBlock≠some k:=by
 intro hb
 rcases h'.2 with ⟨rfl,_⟩ | ⟨g',cap,cur,rfl,_,cO,_⟩
 ·cases hb
 rcases h.2 with ⟨rfl,_⟩ | ⟨g,cap,cur,rfl,_,hg,_⟩
 ·cases hk
 have e1:g=k:=by injection hk
 have e2:g'=k:=by injection hb
 subst e1
 subst e2
 rw [hg] at cO
 injection cO with cO
 injection cO with _ cO
 exact aH cO
theorem zfL (h:w.ownsRow B e s v n xs) (hn:0<n):∃ g c,v=.slice (some ⟨g,0,none⟩) n c/\B<=g/\g<w.heap.size:=by
 rcases h.2 with ⟨_,h0⟩ | ⟨g,cap,cur,rfl,hB,hg,_⟩
 ·omega
 exact ⟨g,cap,rfl,hB,(Array.getElem?_eq_some_iff.1 hg).1⟩
theorem zd5 {m:Nat} (h:w.ownsRow B e s (.slice (some ⟨g,0,none⟩) m c) n xs) (j:Nat) (u:Value):(w.setCell ⟨g,j,none⟩ u).ownsRow B e s (.slice (some ⟨g,0,none⟩) m c) n (xs.set j u):=by
 obtain ⟨a,cc,e⟩:=zh h
 injection e with e1 e2 e3
 subst e2
 exact (h.stored j u).1
def zbu (w0:World) (B:Nat) (N:List (Bs)) (L:List Atr) (ov:Value) (Lq:List (Bs × Value)) (w:World):Prop :=
 zab w (.map (some B)) N/\w.ownsRow (B+1) 74 2 ov L.length (zm Lq)/\zcJ w (B+1) Lq L/\Below B w0 w/\B+1<=w.heap.size
theorem zhf (h:zbu w0 B N L ov Lq w) (hb:Below w.heap.size w w'):zbu w0 B N L ov Lq w' :=
 ⟨zcf h.1 hb,zu h.2.1 hb,zyO h.2.2.1 hb,h.2.2.2.1.trans (hb.mono (by have:=h.2.2.2.2;omega)),Nat.le_trans h.2.2.2.2 hb.size⟩
theorem zjX (h:zbu w0 B N L ov Lq w):zbu w0 B N L ov Lq w.drew:=zhf h (Br w).drew
theorem zfM (h:zbu w0 B N L ov Lq w):Lq.length=L.length:=h.2.2.1.1
theorem zjY (h:zbu w0 B N L (.slice (some ⟨g,0,none⟩) n c) Lq w) (j:Nat) (hj:j<Lq.length) :
  w.cell? ⟨g,j*2,none⟩=some (.string ⟨Lq[j].1.toArray⟩)/\w.cell? ⟨g,j*2+1,none⟩=some Lq[j].2:=by
 have hl:=zfM h
 have hr:=h.2.1
 obtain ⟨a,cc,e⟩:=zh hr
 injection e with e1 e2 e3
 subst e2
 obtain ⟨h1,h2⟩:=zca Lq j hj
 exact ⟨(hr.cellAt _ Om).trans h1,(hr.cellAt _ Om).trans h2⟩
theorem zjZ (h:zbu w0 B N L (.slice (some ⟨g,0,none⟩) n c) Lq w) (j:Nat) (hj:j<Lq.length) (h2:Chg (fun k=>some k=Lq[j].2.ownBlock) w w') :
  w'.ownsRow (B+1) 74 2 (.slice (some ⟨g,0,none⟩) n c) L.length (zm Lq)/\w'.cell? ⟨g,j*2+1,none⟩=some Lq[j].2/\w'.frozen? ⟨g,j*2+1,none⟩=false:=by
 have hl:=zfM h
 have hr:=h.2.1
 have hv:=(h.2.2.1.2.1 j hj Om).2
 have qY:=zz hr h2 (fun k hk e=>zeR hr hv De k hk e.symm)
 refine ⟨qY,?_,?_⟩
 ·obtain ⟨a,cc,e⟩:=zh hr
  injection e with e1 e2 e3
  subst e2
  exact (qY.cellAt _ Om).trans (zca Lq j hj).2
 obtain ⟨a,cc,e⟩:=zh hr
 injection e with e1 e2 e3
 subst e2
 exact qY.frozenAt _
theorem zj0 (h:zbu w0 B N L (.slice (some ⟨g,0,none⟩) n c) Lq w) (j:Nat) (hj:j<Lq.length) (t:Bs) (ht:Lq[j].1=t) (Y:List (Bs)) (v':Value)
  (h1:w'.ownsRow (B+1) 9 1 v' Y.length (sc Y)) (h2:Chg (fun k=>some k=Lq[j].2.ownBlock) w w') (h3:v'.ownBlock=Lq[j].2.ownBlock\/∃ k,v'.ownBlock=some k/\w.heap.size<=k) :
  zbu w0 B N (L.set j (t,Y)) (.slice (some ⟨g,0,none⟩) n c) (Lq.set j (t,v')) (w'.setCell ⟨g,j*2+1,none⟩ v'):=by
 obtain ⟨qY,_,_⟩:=zjZ h j hj h2
 obtain ⟨aJ,hr,jN,hb,hs⟩:=h
 have hl:=jN.1
 have hv:=(jN.2.1 j hj Om).2
 have CT:=zyR jN j hj t ht Y v' h1 h2 h3
 have EY:Chg (fun k=>k=g) w' (w'.setCell ⟨g,j*2+1,none⟩ v'):=(Chg.refl (fun k=>k=g) w').setCell (p:=⟨g,j*2+1,none⟩) (fun _=>rfl) _
 have wD:=(qY.lt g rfl).1
 have hz:=h2.size
 refine ⟨?_,?_,?_,?_,?_⟩
 ·have n1:=zbJ aJ h2 (fun b ak e=>by
   injection ak with ak
   injection ak with ak
   exact zdM hv aJ b e.symm ak.symm)
  exact zbJ n1 EY (fun b ak e=>by
   injection ak with ak
   injection ak with ak
   have e:b=g:=e
   omega)
 ·have bm:=zd5 qY (j*2+1) v'
  rw [zyS Lq j hj v',ht] at bm
  rw [List.length_set]
  exact bm
 ·refine zhe CT EY (fun i hi k hk e=>?_)
  have jd:i<(L.set j (t,Y)).length:=by rw [List.length_set] at hi ⊢;omega
  have e:k=g:=e
  subst e
  exact zeR qY (CT.2.1 i hi jd).2 De k rfl hk
 ·exact (hb.trans (h2.toBelow Om (fun k hk e=>by have:=(hv.lt k e.symm).1;omega))).trans (EY.toBelow Om (fun k hk e=>by have e:k=g:=e;omega))
 have:=EY.size
 omega
theorem zyT {N':List (Bs)} (h:zbu w0 B N L ov Lq w) (hg:w.grownBy w' (some B)) (aJ:zab w' (.map (some B)) N'):zbu w0 B N' L ov Lq w':=by
 obtain ⟨_,hr,jN,hb,hs⟩:=h
 have hc:=Chg.ofGrown hg
 refine ⟨aJ,zz hr hc (fun k hk e=>?_),zhe jN hc (fun i hi k hk e=>?_),hb.trans (hc.toBelow Om (fun k hk e=>?_)),Nat.le_trans hs hc.size⟩
 ·have:=(hr.lt k hk).1
  injection e with e
  omega
 ·have hl:=jN.1
  have:=((jN.2.1 i hi Om).2.lt k hk).1
  injection e with e
  omega
 injection e with e
 omega
theorem zyU {t:Bs} (h:zbu w0 B N L ov Lq w) (h1:w'.ownsRow (B+1) 74 2 v' (L.length+1) (zm Lq++[.string ⟨t.toArray⟩,.slice none 0 0])) (h2:Chg (fun k=>some k=ov.ownBlock) w w') :
  zbu w0 B N (L++[(t,[])]) v' (Lq++[(t,.slice none 0 0)]) w':=by
 obtain ⟨aJ,hr,jN,hb,hs⟩:=h
 have hl:=jN.1
 refine ⟨zbJ aJ h2 (fun b ak e=>?_),?_,zyQ (zhe jN h2 (fun i hi k hk e=>?_)) t,hb.trans (h2.toBelow Om (fun k hk e=>?_)),Nat.le_trans hs h2.size⟩
 ·injection ak with ak
  injection ak with ak
  exact zdM hr aJ b e.symm ak.symm
 ·rw [List.length_append,zaJ]
  exact h1
 ·exact zeR hr (jN.2.1 i hi Om).2 De k e.symm hk
 have:=(hr.lt k e.symm).1
 omega
end Go.Proofs.YtijglbolppkefaaGreatDoor

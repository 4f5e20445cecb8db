/- The document's tree: a search by. -/
import Derived.Test.YtijglbolppkefaaGreatDoorDtPN
import Derived.Test.YtijglbolppkefaaGreatDoorEnQT
import Derived.Test.YtijglbolppkefaaGreatDoorMPlEF
import Derived.Test.YtijglbolppkefaaGreatDoorDtAC
import Derived.Test.YtijglbolppkefaaGreatDoorEnJN
import Derived.Test.YtijglbolppkefaaGreatDoorMMoM
import Derived.Test.YtijglbolppkefaaGreatDoorMDqJ
set_option linter.unusedVariables false
set_option linter.unusedSimpArgs false
set_option maxHeartbeats 25600000
set_option maxRecDepth 100000
namespace Go.Proofs.YtijglbolppkefaaGreatDoor
open Go.Proofs.Tryz
open Go Go.RowKit Go.Proofs.BerK Go.Proofs.MemK Go.Proofs.UtfK
variable {w : World} {B : Nat} {lv : Value} {L : List Ent}
theorem zou {p:Prop} (h:p:=by
 rw [<- HR.o,zjE H.o.2]
 have:Q.drop i=[]:=List.drop_eq_nil_of_le (by rw [HX.o.2.2.2.1,HX.o.2.2.2.2.2];omega)
 rw [this]
 cases P.drop i <;> rfl):p:=h
theorem zjD {p:Prop} (h:p:=by
 go_wp2
 go_ret
 exact zB lB.o (bw.o.trans (H.o.1.mono bw.o.size))):p:=h
def zN (w:World) (B:Nat) (lv:Value) (L:List Ent):Prop :=
 ∃ Lq:List (Bs × Value),(Lq.length=L.length/\∀ i (h1:i<Lq.length) (h2:i<L.length),Lq[i].1=L[i].1/\zC w Lq[i].2 L[i].2)/\w.ownsRow B 39 2 lv L.length (zm Lq)
theorem zT {w':World} (h:zN w B lv L) (hb:Below w.heap.size w w'):zN w' B lv L:=by
 obtain ⟨Lq,⟨h1,h2⟩,h3⟩:=h
 exact ⟨Lq,⟨h1,fun i a b=>⟨(h2 i a b).1,zcn (h2 i a b).2 hb⟩⟩,zu h3 hb⟩
theorem za8 (h:zN w B lv L):∃ a c,lv=.slice a L.length c:=by
 obtain ⟨_,_,h⟩:=h
 exact zh h
theorem zov (w:World) (B:Nat):zN w B (.slice none 0 0) []:=⟨[],⟨rfl,fun i h=>by simp at h⟩,World.ownsRow_nil _ _ _ _⟩
theorem zfE {a:Option Addr} {n c:Nat} (h:zN w B (.slice a n c) L) (i:Nat) (hi:i<L.length):∃ g v,a=some ⟨g,0,none⟩/\g<w.heap.size/\w.cell? ⟨g,i*2,none⟩=some (.string ⟨L[i].1.toArray⟩)/\w.cell? ⟨g,i*2+1,none⟩=some v/\zC w v L[i].2:=by
 obtain ⟨Lq,⟨h1,h2⟩,h3⟩:=h
 rcases h3.2 with ⟨e,h0⟩ | ⟨g,cap,cur,e,_,hg,_⟩
 ·omega
 injection e with e1 e2 e3
 subst e1 e2
 obtain ⟨k1,k2⟩:=zca Lq i Om
 obtain ⟨q1,q2⟩:=h2 i Om hi
 exact ⟨g,_,rfl,zi hg,by rw [<- q1];exact (h3.cellAt (i*2) Om).trans k1,(h3.cellAt (i*2+1) Om).trans k2,q2⟩
def zeK (L:List Ent) (s:Bs) (w:World) (en:Ending) (w':World):Prop:=∃ n:Int,en=.returned (.int .i64 n)/\(0<=n ↔ zt L s=true)/\Below w.heap.size w w'
theorem zgR (B:Nat) (tv cv lv:Value) (L:List Ent) (s:Bs) (w:World) (h:zN w B lv L) (hl:L.length<=1000000) :
  Calls prog 36 #[.agg #[tv,cv,lv],.string ⟨s.toArray⟩] w (zeK L s w):=by
 obtain ⟨a,c,rfl⟩:=za8 h
 obtain ⟨n,hn⟩:=Ex L.length
 have HN:=Hy hn
 rw [hn] at h hl ⊢
 have HE:=Hy h
 obtain ⟨W0,aN⟩:=Ex (w.alloc (.cells #[tv,cv,.slice a n c] 35))
 have aE:=Nb aN
 have y0:=Nw aN
 have HY:=Hy y0
 have HB:=Hy aE
 have HW:=Hy aN
 obtain ⟨d0,d1,d2⟩:=ze y0
 clear h hn aE y0 aN
 go_enter func36,ntmps36
 go_wp2_with fail
 rw [HW.o]
 go_loopw [5] (fun v wr=>∃ i:Nat,i<=n/\v=.int .i64 (i:Nat)/\Below W0.heap.size W0 wr/\∀ j (hj:j<L.length),j<i->L[j].1≠s) (fun v _=>n - (intOf v).toNat)
 case atStart=>exact ⟨0,by omega,rfl,Br _,fun j _ h=>by omega⟩
 case round =>
  obtain ⟨i,hi,rfl,hb,eC⟩:=hrel
  obtain ⟨_,_,e2⟩:=ze (Ob HY.o hb)
  have H:=Hy (An hb eC)
  clear d0 d1 d2 eC
  by_cases aj:i<n
  ·have bh:(i:Int)<(n:Int):=by omega
   have iS:i<L.length:=by rw [HN.o];exact aj
   obtain ⟨g,v,rfl,hg,k0,k1,_⟩:=zfE (zT HE.o (HB.o.trans (hb.mono HB.o.size))) i iS
   clear hb k1
   by_cases hs:L[i].1=s
   ·have HS:=Hy hs
    rw [hs] at k0
    clear hs
    go_wp2
    go_ret
    exact ⟨_,rfl,⟨fun _=>zbr.2 ⟨_,List.getElem_mem iS,HS.o⟩,fun _=>by omega⟩,HB.o.trans (H.o.1.mono HB.o.size)⟩
   obtain ⟨x,hx⟩:=Ex (L[i].1)
   rw [hx] at k0 hs
   have HX:=Hy hx
   clear hx
   have lV:(x==s)=false:=by simpa using hs
   go_wp2
   refine ⟨⟨i+1,by omega,by go_num,H.o.1,fun j hj sd=>?_⟩,by simp [intOf];omega⟩
   by_cases iG:j<i
   ·exact H.o.2 j hj iG
   obtain rfl:j=i:=by omega
   rw [HX.o];exact hs
  obtain rfl:i=n:=by omega
  clear hb aj
  go_wp2
  go_ret
  refine ⟨_,rfl,⟨fun h=>absurd h De,fun h=>?_⟩,HB.o.trans (H.o.1.mono HB.o.size)⟩
  obtain ⟨x,hx,he⟩:=zbr.1 h
  obtain ⟨j,hj,rfl⟩:=List.mem_iff_getElem.1 hx
  exact absurd he (H.o.2 j hj (by have:=HN.o;omega))
def paX (s:Bs):List (Bs):=(psO s).getD []
theorem zeL (s:Bs):paL s=(paX s).reverse:=rfl
theorem zow (s:Bs) (w:World):Calls prog 53 #[.string ⟨s.toArray⟩] w (fun en w'=>∃ v b,en=.returned (.tuple #[v,.bool b])/\TxR w' v (paX s)/\Below w.heap.size w w'):=by
 refine (zeP s w).mono fun en w' h=>?_
 unfold zhb at h
 unfold paX
 cases hq:psO s with
 | none =>
  rw [hq] at h
  exact ⟨_,_,h.1,⟨none,0,rfl,fun i hi=>by simp at hi⟩,h.2⟩
 | some X =>
  rw [hq] at h
  obtain ⟨v,h1,h2,h3⟩:=h
  exact ⟨v,_,h1,zaL h2,h3⟩
theorem zox (s:Bs):(paX s).length<=32:=by
 unfold paX psO
 cases hq:nrD s with
 | none=>simp
 | some D=>simpa using (zaA hq).2.1
theorem zoy (s:Bs) (i:Nat) (hi:i<(paX s).length):(paL s)[i]'(by rw [zeL];simpa using hi)=(paX s)[(paX s).length - 1 - i]'Om:=by
 simp only [zeL,List.getElem_reverse]
theorem zjE {P Q:Pa} {i:Nat} (h:P.take i=Q.take i):ltP P Q=ltP (P.drop i) (Q.drop i):=by
 conv=>lhs;rw [<- List.take_append_drop i P,<- List.take_append_drop i Q,h]
 exact zgs _ _ _
theorem zxh (a b:Bs) (w:World):Calls prog 126 #[.string ⟨a.toArray⟩,.string ⟨b.toArray⟩] w (BB (bfN a b) w):=by
 have hP:∀ i (hi:i<(paX a).length),∃ p,(paX a)[(paX a).length - 1 - i]?=some p/\(paL a).drop i=p :: (paL a).drop (i+1)/\(paL a).take (i+1)=(paL a).take i++[p]:=fun i hi=>by
  have hl:i<(paL a).length:=by rw [zeL];simpa using hi
  refine ⟨(paL a)[i],?_,List.drop_eq_getElem_cons hl,List.take_succ_eq_append_getElem hl⟩
  rw [zoy a i hi,List.getElem?_eq_getElem]
 have hQ:∀ i (hi:i<(paX b).length),∃ p,(paX b)[(paX b).length - 1 - i]?=some p/\(paL b).drop i=p :: (paL b).drop (i+1)/\(paL b).take (i+1)=(paL b).take i++[p]:=fun i hi=>by
  have hl:i<(paL b).length:=by rw [zeL];simpa using hi
  refine ⟨(paL b)[i],?_,List.drop_eq_getElem_cons hl,List.take_succ_eq_append_getElem hl⟩
  rw [zoy b i hi,List.getElem?_eq_getElem]
 have ER:(paL a).length=(paX a).length:=by rw [zeL];simp
 have ES:(paL b).length=(paX b).length:=by rw [zeL];simp
 have fO:bfN a b=ltP (paL a) (paL b):=rfl
 obtain ⟨P,ML⟩:=Ex (paL a)
 obtain ⟨Q,MM⟩:=Ex (paL b)
 rw [ML] at hP ER fO
 rw [MM] at hQ ES fO
 rw [fO]
 obtain ⟨R,hR⟩:=Ex (ltP P Q)
 have HR:=Hy hR
 rw [hR]
 have H1:=Hy (zow a w)
 have H2:=Hy (fun w'=>zow b w')
 obtain ⟨X,hX⟩:=Ex (paX a)
 obtain ⟨Y,hY⟩:=Ex (paX b)
 have fv:=zox a
 have fb:=zox b
 rw [hX] at hP ER H1 fv
 rw [hY] at hQ ES H2 fb
 obtain ⟨n,hn⟩:=Ex X.length
 obtain ⟨m,hm⟩:=Ex Y.length
 have HX:=Hy (An hP (An hQ (An ER (An ES (An hn hm)))))
 rw [hn] at fv
 rw [hm] at fb
 clear hP hQ ER ES fO ML MM hR hX hY
 go_enter func126,ntmps126
 go_wp2_with fail
 refine H1.o.mono ?_
 rintro en w1 ⟨v1,b1,rfl,t1,au⟩
 have cr:=Hy au
 have eS:=Hy t1
 obtain ⟨xa,xc,rfl,_⟩:=t1
 rw [hn] at eS ⊢
 clear au
 go_wp2_with fail
 refine (H2.o w1).mono ?_
 rintro en w2 ⟨v2,b2,rfl,t2,ak⟩
 have bw:=Hy (cr.o.trans (ak.mono cr.o.size))
 have eS:=Hy (zA eS.o ak)
 have mE:=Hy t2
 obtain ⟨ya,yc,rfl,_⟩:=t2
 rw [hm] at mE ⊢
 clear ak hn hm
 go_wp2
 go_loopw [9] (fun v wr=>∃ i:Nat,i<=n/\i<=m/\v=.int .i64 (i:Nat)/\Below w2.heap.size w2 wr/\P.take i=Q.take i) (fun v _=>n - (intOf v).toNat)
 case atStart=>exact ⟨0,by omega,by omega,rfl,Br _,by simp⟩
 case round =>
  obtain ⟨i,cz,cJ,rfl,hb,ir⟩:=hrel
  have H:=Hy (An hb ir)
  clear hb ir
  by_cases aj:i<n
  ·have bh:(i:Int)<(n:Int):=by omega
   by_cases cT:i<m
   ·have aO:(i:Int)<(m:Int):=by omega
    obtain ⟨p,uF,pY,wZ⟩:=HX.o.1 i (by rw [HX.o.2.2.2.2.1];exact aj)
    obtain ⟨q,gj,dG,mS⟩:=HX.o.2.1 i (by rw [HX.o.2.2.2.2.2];exact cT)
    rw [HX.o.2.2.2.2.1] at uF
    rw [HX.o.2.2.2.2.2] at gj
    obtain ⟨Cz,CA⟩:=List.getElem?_eq_some_iff.1 uF
    obtain ⟨CB,CC⟩:=List.getElem?_eq_some_iff.1 gj
    obtain ⟨xa',xc',so,xV⟩:=eS.o
    obtain ⟨ya',yc',BV,MN⟩:=mE.o
    injection so with d7 jb hx3
    injection BV with ET Iy hy3
    subst d7 ET
    clear jb hx3 Iy hy3
    obtain ⟨xg,xo,rfl,Ei,bB⟩:=xV (n - 1 - i) Cz
    obtain ⟨yg,yo,rfl,hyg,jx⟩:=MN (m - 1 - i) CB
    rw [CA] at bB
    rw [CC] at jx
    have x0:=(H.o.1.cell (p:=⟨xg,_,none⟩) Ei).trans bB
    have y0:=(H.o.1.cell (p:=⟨yg,_,none⟩) hyg).trans jx
    have HP:=Hy (An pY (An wZ (An dG mS)))
    have i1:((n:Int) - 1 - (i:Int))=((n - 1 - i:Nat):Int):=by omega
    have i2:((m:Int) - 1 - (i:Int))=((m - 1 - i:Nat):Int):=by omega
    have i3:((n - 1 - i:Nat):Int)<(n:Int):=by omega
    have i4:((m - 1 - i:Nat):Int)<(m:Int):=by omega
    clear uF pY wZ gj dG mS Cz CA CB CC xV MN bB jx
    by_cases uX:p=q
    ·subst uX
     have Iz:(p==p)=true:=by simp
     go_wp2
     go_region
     go_wp2
     refine ⟨⟨i+1,by omega,by omega,by go_num,by first | exact H.o.1 | exact H.o.1.drew,?_⟩,by simp [intOf];omega⟩
     rw [HP.o.2.1,HP.o.2.2.2,H.o.2]
    have Iz:(p==q)=false:=by simpa using uX
    have HPQ:=Hy (show R=ltB p q by rw [<- HR.o,zjE H.o.2,HP.o.1,HP.o.2.2.1];exact if_neg uX)
    go_wp2
    go_region
    go_wp2
    go_ret
    exact zB (HPQ.o.trans (zdX p q).symm) (bw.o.trans (H.o.1.drew.mono bw.o.size))
   obtain rfl:i=m:=by omega
   have CD:R=false:=by
    exact zou
   have aJ:¬ (n:Int)<(i:Int):=by omega
   have lB:=Hy CD
   clear CD
   exact zjD
  obtain rfl:i=n:=by omega
  by_cases aJ:i<m
  ·have MO:R=true:=by
    rw [<- HR.o,zjE H.o.2]
    have h1:P.drop i=[]:=List.drop_eq_nil_of_le (by rw [HX.o.2.2.1,HX.o.2.2.2.2.1];omega)
    obtain ⟨q,_,hq,_⟩:=HX.o.2.1 i (by rw [HX.o.2.2.2.2.2];exact aJ)
    rw [h1,hq];rfl
   have IA:(i:Int)<(m:Int):=by omega
   have lB:=Hy MO
   clear MO
   exact zjD
  have CD:R=false:=by
   exact zou
  have IA:¬ (i:Int)<(m:Int):=by omega
  have lB:=Hy CD
  clear CD
  exact zjD
theorem Tryz.dtinfoE:(prog.info? 39).map (fun i=>(i.zero,i.size,i.bytes))=some (some (.agg #[.string ByteArray.empty,.slice none 0 0]),2,40):=by kernel_rfl
def EnP (w wr:World) (B:Nat) (ov:Value) (L:List Ent):Prop :=
 ∃ Lq:List (Bs × Value),(Lq.length=L.length/\∀ i (h1:i<Lq.length) (h2:i<L.length),Lq[i].1=L[i].1/\zC w Lq[i].2 L[i].2)/\wr.ownsRow B 39 2 ov L.length (zm Lq)
theorem zoz (w wr:World) (B:Nat):EnP w wr B (.slice none 0 0) []:=⟨[],⟨rfl,fun i h=>by simp at h⟩,World.ownsRow_nil _ _ _ _⟩
theorem zjF {wr:World} {ov:Value} (h:EnP w wr B ov L) (hb:Below w.heap.size w wr):zN wr B ov L:=by
 obtain ⟨Lq,⟨h1,h2⟩,h3⟩:=h
 exact ⟨Lq,⟨h1,fun i a b=>⟨(h2 i a b).1,zcn (h2 i a b).2 hb⟩⟩,h3⟩
theorem zdZ {Lq:List (Bs × Value)} (h:Lq.length=L.length/\∀ i (h1:i<Lq.length) (h2:i<L.length),Lq[i].1=L[i].1/\zC w Lq[i].2 L[i].2) {v:Value} {e:Ent} (hv:zC w v e.2) :
  (Lq++[(e.1,v)]).length=(L++[e]).length/\∀ i (h1:i<(Lq++[(e.1,v)]).length) (h2:i<(L++[e]).length),(Lq++[(e.1,v)])[i].1=(L++[e])[i].1/\zC w (Lq++[(e.1,v)])[i].2 (L++[e])[i].2:=by
 obtain ⟨hl,hi⟩:=h
 refine ⟨by simp [hl],fun i i1 i2=>?_⟩
 rw [List.getElem_append,List.getElem_append]
 by_cases aj:i<Lq.length
 ·rw [dif_pos aj,dif_pos Om]
  exact hi i aj Om
 rw [dif_neg aj,dif_neg Om]
 simp at i1 i2
 have e1:i - Lq.length=0:=by omega
 have e2:i - L.length=0:=by omega
 simp only [e1,e2,List.getElem_cons_zero]
 exact ⟨trivial,hv⟩
def zoA (tv cv:Value) (L:List Ent) (w:World) (en:Ending) (w':World):Prop:=∃ lv,en=.returned (.agg #[tv,cv,lv])/\zN w' w.heap.size lv L/\Below w.heap.size w w'
theorem zjG {v:Value} {A:List Atr} (h:zC w v A):∃ a n c,v=.slice a n c:=by
 obtain ⟨Lq,B,_,h3⟩:=h
 obtain ⟨a,c,e⟩:=zh h3
 exact ⟨a,_,c,e⟩
theorem zxi (L:List Ent) (s:Bs) (i:Nat) (h:i<L.length):zac (L.take (i+1)) s=if L[i].1=s then zac (L.take i) s else zac (L.take i) s++[L[i]]:=by
 unfold zac
 rw [List.take_succ_eq_append_getElem h,List.filter_append]
 by_cases hs:L[i].1=s
 ·rw [if_pos hs,List.filter_cons_of_neg (by simp [hs])];simp
 rw [if_neg hs,List.filter_cons_of_pos (by simp [hs])];rfl
theorem zxj (B:Nat) (ta tn tc ca cn cc:Nat) (sa sc':Option Addr) (lv:Value) (L:List Ent) (s:Bs) (w:World) (h:zN w B lv L) (hl:L.length<=1000000) :
  Calls prog 52 #[.agg #[.slice sa tn tc,.slice sc' cn cc,lv],.string ⟨s.toArray⟩] w (zoA (.slice sa tn tc) (.slice sc' cn cc) (zac L s) w):=by
 obtain ⟨a,c,rfl⟩:=za8 h
 obtain ⟨n,hn⟩:=Ex L.length
 have HN:=Hy hn
 rw [hn] at h hl ⊢
 have HE:=Hy h
 clear h hn
 obtain ⟨W0,aN⟩:=Ex ((w.alloc (.cells #[.slice sa tn tc,.slice sc' cn cc,.slice a n c] 35)).alloc (.cells #[.slice none 0 0,.slice none 0 0,.slice none 0 0] 35))
 have z0:W0.heap.size=w.heap.size+1+1:=by rw [<- aN];simp
 have aE:Below w.heap.size w W0:=by rw [<- aN];exact ((Br w).alloc Lr _).alloc Sm _
 have y0:W0.heap[w.heap.size]?=some (.cells #[.slice sa tn tc,.slice sc' cn cc,.slice a n c] 35 (0,0)):=by rw [<- aN];exact za0 (heap_alloc_new w _) _
 have y1:W0.heap[w.heap.size+1]?=some (.cells #[.slice none 0 0,.slice none 0 0,.slice none 0 0] 35 (0,0)):=by
  rw [<- aN]
  have:=heap_alloc_new (w.alloc (.cells #[.slice sa tn tc,.slice sc' cn cc,.slice a n c] 35)) (.cells #[.slice none 0 0,.slice none 0 0,.slice none 0 0] 35)
  rw [World.size_alloc] at this
  exact this
 have HY:=Hy (An y0 y1)
 have HB:=Hy (An aE z0)
 have HW:=Hy aN
 obtain ⟨d0,d1,d2⟩:=ze y0
 clear y0 y1 aE z0 aN
 go_enter func52,ntmps52
 go_wp2_with fail
 rw [HW.o]
 go_loopw [5,6] (fun ov iv wr=>∃ i:Nat,i<=n/\iv=.int .i64 (i:Nat)/\Below W0.heap.size W0 wr/\EnP w wr W0.heap.size ov (zac (L.take i) s)) (fun _ iv _=>n - (intOf iv).toNat)
 case atStart=>exact ⟨0,by omega,rfl,Br _,by simpa [zac] using zoz w W0 W0.heap.size⟩
 case round =>
  obtain ⟨i,hi,rfl,hb,eL⟩:=hrel
  obtain ⟨Lq,hq,ab⟩:=eL
  obtain ⟨oa,oc,rfl⟩:=zh ab
  have jx:=Ob HY.o.1 hb
  have ET:=Ob HY.o.2 hb
  obtain ⟨e0,e1,e2⟩:=ze jx
  obtain ⟨N,hN⟩:=Ex ((zac (L.take i) s).length)
  have kk:N<=n:=by rw [<- hN,<- HN.o];exact Nat.le_trans (List.length_filter_le _ _) (by rw [List.length_take];omega)
  rw [hN] at ab
  have H:=Hy (An hb (An hq (An ab hN)))
  have ux:=Hy (An jx ET)
  rw [hN]
  clear d0 d1 d2 hq ab hN jx ET
  by_cases aj:i<n
  ·have bh:(i:Int)<(n:Int):=by omega
   have iS:i<L.length:=by rw [HN.o];exact aj
   have aq:=HB.o.1.trans (hb.mono HB.o.1.size)
   obtain ⟨g,v,rfl,hg,fZ,iX,cP⟩:=zfE HE.o i iS
   have k0:=(aq.cell (p:=⟨g,_,none⟩) hg).trans fZ
   have k1:=(aq.cell (p:=⟨g,_,none⟩) hg).trans iX
   obtain ⟨va,vn,vc,rfl⟩:=zjG cP
   have hdn:=zxi L s i iS
   obtain ⟨⟨x,A⟩,hx⟩:∃ e,L[i]=e:=⟨_,rfl⟩
   rw [hx] at k0 cP hdn
   dsimp only at k0 cP hdn
   have HP:=Hy (An cP hdn)
   clear hb aq fZ iX cP hdn hx hg
   by_cases hs:x=s
   ·subst hs
    have lV:(x==x)=true:=by simp
    have lj:(x != x)=false:=by simp
    go_wp2
    refine ⟨⟨i+1,by omega,by go_num,H.o.1,?_⟩,by simp [intOf];omega⟩
    rw [HP.o.2,if_pos rfl]
    exact ⟨Lq,H.o.2.1,by rw [H.o.2.2.2];exact H.o.2.2.1⟩
   have lV:(x==s)=false:=by simpa using hs
   go_wp2_with (at_builtin;refine zaM rfl (.tmp 22) (.tmp 28) 33 39 rfl W0.heap.size 2 40 _ Tryz.dtinfoE underlying33 rfl De [.string ⟨x.toArray⟩,.slice va vn vc] rfl ?c0 _ N (zm Lq) rfl _ rfl ?c3 H.o.2.2.1 ?c1 ?c2 H.o.1.size ?_)
   case c0=>intro u hu;simp at hu;rcases hu with rfl | rfl <;> rfl
   case c1=>unfold maxLen;omega
   case c2=>omega
   case c3=>rfl
   intro nv w' g1 g2 g3
   obtain ⟨na,nc,rfl⟩:=zh g1
   have bp:Below W0.heap.size W0 w':=H.o.1.trans (g2.toBelow H.o.1.size (fun k _ hk=>(H.o.2.2.1.lt k hk.symm).1))
   have H2:=Hy (An g1 bp)
   clear g1 g2 g3 bp k0 k1 e0 e1 e2
   go_wp2
   refine ⟨⟨i+1,by omega,by go_num,H2.o.2,?_⟩,by simp [intOf];omega⟩
   rw [HP.o.2,if_neg hs]
   refine ⟨Lq++[(x,.slice va vn vc)],zdZ (e:=(x,A)) H.o.2.1 HP.o.1,?_⟩
   rw [List.length_append,H.o.2.2.2,zaJ]
   exact H2.o.1
  obtain rfl:i=n:=by omega
  obtain ⟨f0,f1,f2⟩:=ze ux.o.2
  have u2:=zc ux.o.1 2
  have q0:=zc ux.o.2 0
  have q1:=zc ux.o.2 1
  have q2:=zc ux.o.2 2
  have aH:w.heap.size≠w.heap.size+1:=by omega
  clear hb aj
  go_wp2
  obtain ⟨W1,aB⟩:=Ex (wr.setCell ⟨w.heap.size,2,none⟩ (.slice oa N oc))
  have y1:W1.heap[w.heap.size+1]?=some (.cells #[.slice none 0 0,.slice none 0 0,.slice none 0 0] 35 (0,0)):=by rw [<- aB];exact zdc ux.o.2 (by show w.heap.size+1≠w.heap.size;omega) _
  have c1:Chg (fun k=>k=w.heap.size\/k=w.heap.size+1) wr W1:=by rw [<- aB];exact (Chg.refl _ wr).setCell (p:=⟨w.heap.size,2,none⟩) (fun _=>.inl rfl) _
  rw [aB]
  have y2:=zbR y1 (.slice sa tn tc) (.slice sc' cn cc) (.slice oa N oc)
  have c2:Chg (fun k=>k=w.heap.size\/k=w.heap.size+1) wr (((W1.setCell ⟨w.heap.size+1,0,none⟩ (.slice sa tn tc)).setCell ⟨w.heap.size+1,1,none⟩ (.slice sc' cn cc)).setCell ⟨w.heap.size+1,2,none⟩ (.slice oa N oc)) :=
   ((c1.setCell (p:=⟨w.heap.size+1,0,none⟩) (fun _=>.inr rfl) _).setCell (p:=⟨w.heap.size+1,1,none⟩) (fun _=>.inr rfl) _).setCell (p:=⟨w.heap.size+1,2,none⟩) (fun _=>.inr rfl) _
  obtain ⟨W2,aL⟩:=Ex (((W1.setCell ⟨w.heap.size+1,0,none⟩ (.slice sa tn tc)).setCell ⟨w.heap.size+1,1,none⟩ (.slice sc' cn cc)).setCell ⟨w.heap.size+1,2,none⟩ (.slice oa N oc))
  rw [aL] at y2 c2 ⊢
  obtain ⟨r0,r1,r2⟩:=ze y2
  refine bodyPost_ret (v:=.agg #[.slice sa tn tc,.slice sc' cn cc,.slice oa N oc]) (by simp [results,results52,go_sem,r0,r1,r2]) rfl ?_
  have aq:=HB.o.1.trans (H.o.1.mono HB.o.1.size)
  have fO:Below w.heap.size w W2:=aq.trans (c2.toBelow aq.size (fun k _ hk=>by rcases hk with e | e <;> omega))
  have li:zac L s=zac (L.take i) s:=by rw [<- HN.o,List.take_length]
  refine ⟨_,rfl,?_,fO⟩
  rw [li]
  refine zjF ⟨Lq,H.o.2.1,?_⟩ fO
  rw [H.o.2.2.2]
  exact zaK (zz H.o.2.2.1 c2 (fun k hk e=>by
   have:=(H.o.2.2.1.lt k hk).1
   have:=HB.o.2
   rcases e with e | e <;> omega)) HB.o.1.size
end Go.Proofs.YtijglbolppkefaaGreatDoor
namespace Go.Proofs.YtijglbolppkefaaGreatDoor
open Go.Proofs.Tryz
open Go Go.RowKit Go.Proofs.BerK Go.Proofs.MemK Go.Proofs.UtfK Go.Maps Go.WideMaps
def noQ:Bs × Value:=([],.slice none 0 0)
theorem zxk (n:Nat):madeCells #[Value.string ByteArray.empty,.slice none 0 0] (n*2)=(zm (List.replicate n noQ)).toArray:=by
 apply Array.ext'
 unfold madeCells
 rw [Array.toList_map,Array.toList_range]
 show _=zm (List.replicate n noQ)
 induction n with
 | zero=>rfl
 | succ n ih =>
  have e:∀ r:Bs × Value,∀ R,zm (R++[r])=zm R++[.string ⟨r.1.toArray⟩,r.2]:=fun r R=>by simp [zm]
  rw [List.replicate_succ',e,<- ih,show (n+1)*2=n*2+1+1 by omega,List.range_succ,List.range_succ]
  simp only [List.map_append,List.map_cons,List.map_nil,List.append_assoc,List.cons_append,List.nil_append]
  congr 1
  have h0:(n*2)%2=0:=by omega
  have h1:(n*2+1)%2=1:=by omega
  show [(#[Value.string ByteArray.empty,.slice none 0 0] : Array Value)[(n*2)%2]!,(#[Value.string ByteArray.empty,.slice none 0 0] : Array Value)[(n*2+1)%2]!]=_
  rw [h0,h1]
  rfl
theorem zxl (n:Nat) (W:World) (hn:n<=1000000):(Instr.makeSlice 37 (.int .i64 (n:Int)) (.int .i64 (n:Int))).run prog W=.ok (.slice (some ⟨W.heap.size,0,none⟩) n n) (W.alloc (.cells (zm (List.replicate n noQ)).toArray 74)):=by
 obtain ⟨i0,hi,bO,bi,ce⟩:=info_parts Tryz.sninfo74
 have h:=run_make (P:=prog) W 37 74 i0 (.agg #[.string ByteArray.empty,.slice none 0 0]) underlying37 hi bO .i64 .i64 (n:Int) (n:Int) Om Om (by rw [ce];omega) Om
 have e:madeCells (Value.agg #[.string ByteArray.empty,.slice none 0 0]).cells ((n:Int).toNat*i0.size)=(zm (List.replicate n noQ)).toArray:=by
  rw [bi,show (n:Int).toNat*2=n*2 by omega];exact zxk n
 rw [e] at h
 simpa using h
theorem zxm {w:World} {Lq:List (Bs × Value)} {L:List Atr} {q:Bs × Value} {a:Atr} (h:zad w Lq L) (h1:q.1=a.1) (h2:∃ B,w.ownsRow B 9 1 q.2 a.2.length (sc a.2)):zad w (Lq++[q]) (L++[a]):=by
 obtain ⟨hl,hi⟩:=h
 refine ⟨by simp [hl],fun i i1 i2=>?_⟩
 rw [List.getElem_append,List.getElem_append]
 by_cases aj:i<Lq.length
 ·rw [dif_pos aj,dif_pos Om]
  exact hi i aj Om
 rw [dif_neg aj,dif_neg Om]
 simp at i1 i2
 have e1:i - Lq.length=0:=by omega
 have e2:i - L.length=0:=by omega
 simp only [e1,e2,List.getElem_cons_zero]
 exact ⟨h1,h2⟩
theorem zxn (A:List Atr) (dn:Bs) (av:Value) (w:World) (h:zak w av A) (hl:A.length<=100000) (hv:∀ a∈A,a.2.length<=1000000) :
  Calls prog 42 #[.agg #[.string ⟨dn.toArray⟩,av]] w (zqb dn A w):=by
 obtain ⟨_,a,c,rfl,ae⟩:=h
 have HM:=Hy ae
 have l7:=Hy hv
 obtain ⟨n,hn⟩:=Ex A.length
 have HL:=Hy hn
 rw [hn] at hl ⊢
 obtain ⟨W0,aN⟩:=Ex ((w.alloc (.cells #[.string ⟨dn.toArray⟩,.slice a n c] 39)).alloc (.cells #[.string ⟨#[]⟩,.slice none 0 0] 39))
 have z0:W0.heap.size=w.heap.size+1+1:=by rw [<- aN];simp
 have aE:Below w.heap.size w W0:=by rw [<- aN];exact ((Br w).alloc Lr _).alloc Sm _
 obtain ⟨x1,x2⟩:W0.heap[w.heap.size]?=some (.cells #[.string ⟨dn.toArray⟩,.slice a n c] 39 (0,0))/\W0.heap[w.heap.size+1]?=some (.cells #[.string ⟨#[]⟩,.slice none 0 0] 39 (0,0)):=by
  rw [<- aN]
  constructor
  ·exact za0 (heap_alloc_new w _) _
  have:=heap_alloc_new (w.alloc (.cells #[.string ⟨dn.toArray⟩,.slice a n c] 39)) (.cells #[.string ⟨#[]⟩,.slice none 0 0] 39)
  rw [World.size_alloc] at this
  exact this
 obtain ⟨M,hM⟩:=Ex ((zm (List.replicate n noQ)).toArray)
 have cC:∀ W,(Instr.makeSlice 37 (.int .i64 (n:Int)) (.int .i64 (n:Int))).run prog W=.ok (.slice (some ⟨W.heap.size,0,none⟩) n n) (W.alloc (.cells M 74)):=by rw [<- hM];exact fun W=>zxl n W Om
 obtain ⟨W1,aB⟩:=Ex (W0.alloc (.cells M 74))
 have au:=Nb aB
 have x3:=Nw aB
 have sJ:W1.ownsRow w.heap.size 74 2 (.slice (some ⟨w.heap.size+1+1,0,none⟩) n n) n (zm (List.replicate n noQ)):=by
  refine ⟨by rw [zev];simp,.inr ⟨w.heap.size+1+1,n,M,rfl,by omega,by rw [<- z0];exact x3,Nat.le_refl _,by unfold maxLen;omega,?_,?_⟩⟩
  ·rw [<- hM,List.size_toArray,zev];simp
  rw [<- hM,List.take_of_length_le (by rw [List.toList_toArray,zev];simp)]
 obtain ⟨d0,d1⟩:=zf x1
 have HX:=Hy (An (aE.trans (au.mono aE.size)) (An (zj x1 au Om) (An (zj x2 au Om) sJ)))
 have HW:=Hy (An aN (An aB z0))
 clear ae hv hn aE x1 x2 hM au x3 sJ aN aB
 go_enter func42,ntmps42
 go_wp2_with fail
 rw [HW.o.1]
 go_wp2
 rw [HW.o.2.1]
 clear d0 d1 cC
 go_loopw [13] (fun v wr=>∃ (k:Nat) (R:List (Bs × Value)),k<=n/\v=.int .i64 (k:Nat)/\R.length=n/\zad wr (R.take k) (A.take k)/\wr.ownsRow w.heap.size 74 2 (.slice (some ⟨w.heap.size+1+1,0,none⟩) n n) n (zm R)/\wr.heap[w.heap.size]?=some (.cells #[.string ⟨dn.toArray⟩,.slice a n c] 39 (0,0))/\wr.heap[w.heap.size+1]?=some (.cells #[.string ⟨#[]⟩,.slice none 0 0] 39 (0,0))/\Below w.heap.size w wr) (fun v _=>n - (intOf v).toNat)
 case atStart=>exact ⟨0,List.replicate n noQ,by omega,rfl,by simp,zbQ _,HX.o.2.2.2,HX.o.2.1,HX.o.2.2.1,HX.o.1⟩
 case round =>
  obtain ⟨k,R,hk,rfl,iB,eH,ab,d7,jb,hb⟩:=hrel
  by_cases aj:k<n
  ·have bh:(k:Int)<(n:Int):=by omega
   have aO:k<A.length:=by rw [HL.o];exact aj
   obtain ⟨g1,o1,vl,rfl,bI,aU,aP,eK,dO⟩:=HM.o k aO
   obtain ⟨va,vc,rfl,_⟩:=id eK
   have e0:=(hb.cell (p:=⟨g1,_,none⟩) bI).trans aU
   have e1:=(hb.cell (p:=⟨g1,_,none⟩) bI).trans aP
   have aY:=l7.o _ (List.getElem_mem aO)
   have qn:w.heap.size+1+1<wr.heap.size:=(ab.lt _ rfl).2
   obtain ⟨nm,aJ⟩:=Ex (A[k].1)
   obtain ⟨nl,fv⟩:=Ex (A[k].2.length)
   rw [aJ] at e0
   obtain ⟨W5,eQ⟩:=Ex (wr.alloc (.cells #[.string ⟨nm.toArray⟩,.slice va nl vc] 74))
   have ai:=Nb eQ
   have y5:=Nw eQ
   obtain ⟨f0,f1⟩:=zf y5
   have zx:=zi y5
   have rV:w.heap.size+1+1≠wr.heap.size:=by omega
   have CE:TxR W5 (.slice va A[k].2.length vc) A[k].2:=zA eK (hb.trans (ai.mono hb.size))
   have iJ:=Hy (fun w' (aq:Below W5.heap.size W5 w')=>zCc A[k].2 (.slice va A[k].2.length vc) w' (zA CE aq) dO aY)
   have lC:k<R.length:=by rw [iB];exact aj
   obtain ⟨r0,r1⟩:=zca R k lC
   have kE:k*2+1<n*2:=by omega
   have H5:=Hy (An eH (An hb (An (zu ab ai) (An ai (An d7 (An jb (An iB (An aJ fv))))))))
   have mD:=Hy eQ
   rw [fv] at iJ e1
   obtain ⟨bx,aD⟩:=Ex wr.heap.size
   have mT:=Hy aD
   clear eH hb ab d7 jb ai y5 aU aP eK CE dO aJ fv eQ
   go_wp2_with fail
   rw [mD.o]
   rw [aD] at f0 f1 zx rV
   clear aD e0 e1
   refine wp_region_noPanic ?_
   refine wp_region_held_drew (S:=fun w'=>w'.cell? ⟨bx,0,none⟩=some (.string ⟨nm.toArray⟩)/\w'.cell? ⟨bx,1,none⟩=some (.slice va nl vc)) Kr ?_ (fun aI=>?_)
   ·exact ⟨f0,f1⟩
   refine wpAnyH_take (i:=0) (v:=?vj0) rfl Kr Kr Kr Fh (Or.inl ⟨by rfl,?yj0⟩) As ?rj0
   case yj0=>(intro w' ar;(try dsimp only at ar);go_simp;with_reducible rfl)
   try simp only [Sg,Act.put,Ss]
   refine wpAnyH_take (i:=1) (v:=?vj1) rfl Kr Kr Kr Fh (Or.inl ⟨by rfl,?yj1⟩) As ?rj1
   case yj1=>(intro w' ar;(try dsimp only at ar);go_simp;with_reducible rfl)
   try simp only [Sg,Act.put,Ss]
   refine wpAnyH_take (i:=2) (v:=?vj2) rfl Kr Kr Kr Fh (Or.inl ⟨by rfl,?yj2⟩) As ?rj2
   case yj2=>(intro w' ar;(try dsimp only at ar);go_simp;with_reducible rfl)
   try simp only [Sg,Act.put,Ss]
   refine wpAnyH_take (i:=3) (v:=?vj3) rfl Kr Kr Kr Fh (Or.inl ⟨by rfl,?yj3⟩) As ?rj3
   case yj3=>(intro w' ar;(try dsimp only at ar);go_simp;with_reducible rfl)
   try simp only [Sg,Act.put,Ss]
   refine wpAnyH_take (i:=4) (v:=?vj4) rfl Kr Kr Kr Fh (Or.inl ⟨by rfl,?yj4⟩) As ?rj4
   case yj4=>(intro w' ar;(try dsimp only at ar);go_simp;with_reducible rfl)
   try simp only [Sg,Act.put,Ss]
   refine wpAnyH_take (i:=5) (v:=?vj5) rfl Kr Kr Kr Fh (Or.inl ⟨by rfl,?yj5⟩) As ?rj5
   case yj5=>(intro w' ar;(try dsimp only at ar);go_simp;with_reducible rfl)
   try simp only [Sg,Act.put,Ss]
   refine wpAnyH_ready (rs:=[6]) Kr Sm ?_
   refine AllReadyH.cons (o:=_) rfl (fun KR aM=>?cj6) ?nj6
   case nj6=>exact AllReadyH.nil
   go_simp
   go_at_call 64
   with_reducible refine (iJ.o _ (by first | exact (Br _).drew | exact Br _)).mono ?_
   rintro en w6 ⟨ca,cc,rfl,kK,az⟩
   have az:Below W5.heap.size W5 w6:=(by first | exact (Br W5).drew.trans az | exact az)
   have i0:=(az.cell (p:=⟨bx,0,none⟩) zx).trans f0
   have i1:=(az.cell (p:=⟨bx,1,none⟩) zx).trans f1
   have xp:=zu H5.o.2.2.1 az
   have s0:=(xp.cellAt (k*2) Om).trans r0
   have s1:=(xp.cellAt (k*2+1) Om).trans r1
   have t0:=xp.frozenAt (k*2)
   have t1:=xp.frozenAt (k*2+1)
   obtain ⟨cl,bG⟩:=Ex (A[k].2.length)
   rw [bG] at kK ⊢
   have HCL:=Hy bG
   have H6:=Hy (An kK (An az xp))
   clear kK az xp bG
   go_wp2_with fail
   refine aM.out _ _ ?_ (fun aI=>?_)
   ·exact ⟨i0,i1⟩
   clear aM KR
   try simp only [Sg,Act.put,Ss]
   refine wpAnyH_take (i:=7) (v:=?vj7) rfl Kr Kr Kr Fh (Or.inl ⟨by rfl,?yj7⟩) As ?rj7
   case yj7=>(intro w' ar;(try dsimp only at ar);go_simp;with_reducible rfl)
   try simp only [Sg,Act.put,Ss]
   refine wpAnyH_take (i:=8) (v:=?vj8) rfl Kr Kr Kr Fh (Or.inl ⟨by rfl,?yj8⟩) As ?rj8
   case yj8=>(intro w' ar;(try dsimp only at ar);go_simp;with_reducible rfl)
   try simp only [Sg,Act.put,Ss]
   refine wpAnyH_ready (rs:=[9]) Kr Sm ?_
   refine AllReadyH.cons (o:=_) rfl (fun KR aM=>?cj9) ?nj9
   case nj9=>exact AllReadyH.nil
   go_simp
   refine aM.out _ _ ?_ (fun aI=>?_)
   ·exact ⟨(World.cell?_setCell_far _ _ _ _ rV).trans ((World.cell?_setCell_far _ _ _ _ rV).trans i0),(World.cell?_setCell_far _ _ _ _ rV).trans ((World.cell?_setCell_far _ _ _ _ rV).trans i1)⟩
   clear aM KR
   try simp only [Sg,Act.put,Ss]
   refine wpAnyH_done Kr ?_ _
   refine NoPanic.normal ?_
   go_wp2
   refine ⟨⟨k+1,R.set k (nm,.slice ca cl cc),by omega,by go_num,by rw [List.length_set];exact iB,?_,?_,?_,?_,?_⟩,by simp [intOf];omega⟩
   all_goals
    have hc:Chg (fun k'=>some k'=(Value.slice (some ⟨w.heap.size+1+1,0,none⟩) n n).ownBlock) w6 ((w6.setCell ⟨w.heap.size+1+1,k*2,none⟩ (.string ⟨nm.toArray⟩)).setCell ⟨w.heap.size+1+1,k*2+1,none⟩ (.slice ca cl cc)):=((Chg.refl (fun k'=>some k'=(Value.slice (some ⟨w.heap.size+1+1,0,none⟩) n n).ownBlock) w6).setCell (p:=⟨w.heap.size+1+1,k*2,none⟩) (fun _=>rfl) _).setCell (p:=⟨w.heap.size+1+1,k*2+1,none⟩) (fun _=>rfl) _
    have cR:=H5.o.2.2.2.1.trans (H6.o.2.1.mono H5.o.2.2.2.1.size)
    have CF:=H5.o.2.1.trans (cR.mono H5.o.2.1.size)
   ·rw [zq7 R k lC,List.take_succ_eq_append_getElem aO]
    refine zxm (zvk (zaT H5.o.1 cR) H6.o.2.2 hc) H5.o.2.2.2.2.2.2.2.1.symm ⟨W5.drew.heap.size,?_⟩
    have hq:((w6.setCell ⟨w.heap.size+1+1,k*2,none⟩ (.string ⟨nm.toArray⟩)).setCell ⟨w.heap.size+1+1,k*2+1,none⟩ (.slice ca cl cc)).ownsRow W5.drew.heap.size 9 1 (.slice ca cl cc) A[k].2.length (sc A[k].2):=by
     rw [HCL.o]
     exact zz H6.o.1 hc (fun k' eV e=>zeR H6.o.2.2 H6.o.1 De k' e.symm eV)
    exact hq
   ·have bm:=zd5 (zd5 H6.o.2.2 (k*2) (.string ⟨nm.toArray⟩)) (k*2+1) (.slice ca cl cc)
    rw [show (Value.slice ca cl cc)=(nm,Value.slice ca cl cc).2 from rfl,show (Value.string ⟨nm.toArray⟩)=.string ⟨(nm,Value.slice ca cl cc).1.toArray⟩ from rfl,zvj R k lC] at bm
    exact bm
   ·exact zV (Ob H5.o.2.2.2.2.1 cR) hc (fun e=>by simp [Value.ownBlock] at e <;> omega)
   ·exact zV (Ob H5.o.2.2.2.2.2.1 cR) hc (fun e=>by simp [Value.ownBlock] at e <;> omega)
   exact CF.trans (hc.toBelow CF.size (fun k' _ e=>by simp [Value.ownBlock] at e;omega))
  obtain rfl:k=n:=by omega
  have sK:R.take k=R:=by rw [<- iB,List.take_length]
  have MP:A.take k=A:=by rw [<- HL.o,List.take_length]
  rw [sK,MP] at eH
  have qn:w.heap.size+1+1<wr.heap.size:=(ab.lt _ rfl).2
  obtain ⟨d0,d1⟩:=zf d7
  obtain ⟨q0,q1⟩:=zf jb
  have u0:=zc jb 0
  have u1:=zc jb 1
  have H:=Hy (An eH (An ab (An jb hb)))
  clear eH ab d7 jb hb sK MP
  go_wp2
  have hc:Chg (fun k'=>k'=w.heap.size+1) wr ((wr.setCell ⟨w.heap.size+1,0,none⟩ (.string ⟨dn.toArray⟩)).setCell ⟨w.heap.size+1,1,none⟩ (.slice (some ⟨w.heap.size+1+1,0,none⟩) k k)):=((Chg.refl (fun k'=>k'=w.heap.size+1) wr).setCell (p:=⟨w.heap.size+1,0,none⟩) (fun _=>rfl) _).setCell (p:=⟨w.heap.size+1,1,none⟩) (fun _=>rfl) _
  have IB:=zhD H.o.2.2.1 (.string ⟨dn.toArray⟩) (.slice (some ⟨w.heap.size+1+1,0,none⟩) k k)
  obtain ⟨c0,c1⟩:=zf IB
  refine bodyPost_ret (v:=.agg #[.string ⟨dn.toArray⟩,.slice (some ⟨w.heap.size+1+1,0,none⟩) k k]) (by simp [results,results42,go_sem,c0,c1]) rfl ?_
  refine ⟨_,rfl,⟨R,w.heap.size,⟨H.o.1.1,fun i i1 i2=>?_⟩,?_⟩,H.o.2.2.2.trans (hc.toBelow H.o.2.2.2.size (fun k' _ e=>by have e:k'=w.heap.size+1:=e;omega))⟩
  ·obtain ⟨e,EU,hB⟩:=H.o.1.2 i i1 i2
   refine ⟨e,EU,zz hB hc (fun k' eV e'=>?_)⟩
   have e':k'=w.heap.size+1:=e'
   subst e'
   rcases hB.2 with ⟨e2,_⟩ | ⟨g',cap,cur,e2,_,cO,_⟩
   ·rw [e2] at eV;simp [Value.ownBlock] at eV
   rw [e2] at eV
   simp [Value.ownBlock] at eV
   rw [eV,H.o.2.2.1] at cO
   injection cO with cO
   injection cO with _ h5 _
   exact absurd h5 De
  rw [HL.o]
  exact zz H.o.2.1 hc (fun k' eV e'=>by
   have e':k'=w.heap.size+1:=e'
   simp [Value.ownBlock] at eV
   omega)
def zjH (o:Option Ent) (w:World) (en:Ending) (w':World):Prop:=(o=none->en=.returned (.tuple #[.agg #[.string ⟨#[]⟩,.slice none 0 0],.bool false]))/\(∀ e,o=some e->∃ v,en=.returned (.tuple #[.agg #[.string ⟨e.1.toArray⟩,v],.bool true])/\zC w' v e.2)/\Below w.heap.size w w'
theorem zjI (B g:Nat) (sv:Value) (S:Nat->Prop) (L:List Ent) (s:Bs) (w:World) (h:zU w B g sv S L) (hs:s.length<=140737488355328) (aW:∀ e∈L,e.2.length<=100000/\∀ a∈e.2,a.2.length<=1000000) :
  Calls prog 17 #[.pointer (some ⟨g,0,none⟩),.string ⟨s.toArray⟩] w (zjH (lkE L s) w):=by
 obtain ⟨eb,bb,fe,F,nb,rfl,hg,_,h1,h2,_⟩:=h
 have bB:=heap_alloc_new w (.cells #[.string ⟨#[]⟩,.slice none 0 0] 39)
 obtain ⟨W,hW⟩:=Ex (w.alloc (.cells #[.string ⟨#[]⟩,.slice none 0 0] 39))
 rw [hW] at bB
 have hb:=Nb hW
 have IC:=Ob hg hb
 obtain ⟨c0,c1,c2⟩:=ze IC
 have ID:=za6 h1 (hb.block eb (zaS h1))
 have aV:=zmc ID underlying59 (zmh W) s hs
 obtain ⟨q0,q1⟩:=zf bB
 have u0:=zc bB 0
 have u1:=zc bB 1
 have IE:w.heap.size+1=W.heap.size:=by rw [<- hW];simp
 have HW:=Hy (An hW (An bB (An hb IE)))
 cases hl:lkE L s with
 | none =>
  rw [(h2 s).1 hl] at aV
  have aV:(Instr.lookup 59 (.map (some eb)) (.string ⟨s.toArray⟩) true).run prog W=.ok (.tuple #[.agg #[.string ⟨#[]⟩,.slice none 0 0],.bool false]) W:=aV
  have MQ:=za0 bB (.cells #[.string ⟨#[]⟩,.slice none 0 0] 39)
  have p0:=fun ob=>(zf (za0 bB ob)).1
  have p1:=fun ob=>(zf (za0 bB ob)).2
  have v0:=fun ob=>zc (za0 bB ob) 0
  have v1:=fun ob=>zc (za0 bB ob) 1
  have HxA:=Hy MQ
  rw [<- hW] at c1 aV
  simp only [<- hW] at p0 p1 v0 v1
  clear h1 h2 hg IC ID hl bB hb hW aW hs MQ c0 c2 IE q0 q1 u0 u1
  go_enter func17,ntmps17
  go_wp2
  rw [HW.o.1]
  obtain ⟨c0,c1⟩:=zf HxA.o
  refine bodyPost_ret (v:=.tuple #[.agg #[.string ⟨#[]⟩,.slice none 0 0],.bool false]) (by simp [results,results17,go_sem,c0,c1]) rfl ?_
  exact ⟨fun _=>rfl,(fun e h=>by cases h),HW.o.2.2.1.alloc HW.o.2.2.1.size _⟩
 | some e =>
  obtain ⟨v,dl,f7⟩:=(h2 s).2 e hl
  obtain ⟨va,vc,uY⟩:=zdi f7
  subst uY
  rw [dl] at aV
  obtain ⟨d,A⟩:=e
  have aV:(Instr.lookup 59 (.map (some eb)) (.string ⟨s.toArray⟩) true).run prog W=.ok (.tuple #[.agg #[.string ⟨d.toArray⟩,.slice va A.length vc],.bool true]) W:=aV
  have lS:=aW _ (ziR hl).1
  have HO:=Hy (fun w' (co:Below W.heap.size W w')=>zxn A d (.slice va A.length vc) w' (ziZ (zcn (zcn f7 hb) co)) lS.1 (fun a ha=>lS.2 a ha))
  obtain ⟨n,hn⟩:=Ex A.length
  rw [hn] at HO aV
  obtain ⟨W2,aL⟩:=Ex (W.alloc (.cells #[.string ⟨d.toArray⟩,.slice va n vc] 39))
  have ak:=Nb aL
  have jb:=Nw aL
  obtain ⟨e0,e1⟩:=zf jb
  have HX:=Hy (An aL (An ak (Ob bB ak)))
  rw [<- aL,<- hW] at e0 e1
  rw [<- hW] at c1 aV
  clear h1 h2 hg IC ID hl bB hb hW aW hs c0 c2 dl f7 lS hn aL ak jb q0 q1 u0 u1
  rw [World.size_alloc] at e0 e1
  clear IE
  go_enter func17,ntmps17
  go_wp2_with fail
  rw [HW.o.1,HX.o.1]
  refine (HO.o _ HX.o.2.1).mono ?_
  rintro en w4 ⟨v,rfl,cP,bf⟩
  obtain ⟨na,nc,rfl⟩:=zdi cP
  have CG:=Ob HX.o.2.2 bf
  obtain ⟨q0,q1⟩:=zf CG
  have u0:=zc CG 0
  have u1:=zc CG 1
  have H4:=Hy (An cP (An bf CG))
  clear cP bf CG e0 e1
  go_wp2
  have hc:Chg (fun k'=>k'=w.heap.size) w4 ((w4.setCell ⟨w.heap.size,0,none⟩ (.string ⟨d.toArray⟩)).setCell ⟨w.heap.size,1,none⟩ (.slice na A.length nc)):=((Chg.refl (fun k'=>k'=w.heap.size) w4).setCell (p:=⟨w.heap.size,0,none⟩) (fun _=>rfl) _).setCell (p:=⟨w.heap.size,1,none⟩) (fun _=>rfl) _
  have IB:=zhD H4.o.2.2 (.string ⟨d.toArray⟩) (.slice na A.length nc)
  obtain ⟨c0,c1⟩:=zf IB
  have aq:=HW.o.2.2.1.trans ((HX.o.2.1.trans (H4.o.2.1.mono HX.o.2.1.size)).mono HW.o.2.2.1.size)
  refine bodyPost_ret (v:=.tuple #[.agg #[.string ⟨d.toArray⟩,.slice na A.length nc],.bool true]) (by simp [results,results17,go_sem,c0,c1]) rfl ?_
  refine ⟨(fun h=>by cases h),fun e he=>?_,aq.trans (hc.toBelow aq.size (fun k' _ e=>by have e:k'=w.heap.size:=e;omega))⟩
  injection he with he
  subst he
  refine ⟨_,rfl,?_⟩
  obtain ⟨Lq,EU,⟨gj,dG⟩,mS⟩:=H4.o.1
  have eC:∀ {e size n B xs} {v:Value},e≠39 -> w4.ownsRow B e size v n xs->∀ k,v.ownBlock=some k->¬ k=w.heap.size:=by
   intro e size n B xs v aH hB k hk e'
   subst e'
   rcases hB.2 with ⟨e2,_⟩ | ⟨g',cap,cur,e2,_,cO,_⟩
   ·rw [e2] at hk;simp [Value.ownBlock] at hk
   rw [e2] at hk
   simp [Value.ownBlock] at hk
   rw [hk,H4.o.2.2] at cO
   injection cO with cO
   injection cO with _ h5 _
   exact absurd h5.symm aH
  refine ⟨Lq,EU,⟨gj,fun i i1 i2=>?_⟩,zz mS hc (eC De mS)⟩
  obtain ⟨e,B2,hB⟩:=dG i i1 i2
  exact ⟨e,B2,zz hB hc (eC De hB)⟩
end Go.Proofs.YtijglbolppkefaaGreatDoor

/- slices.DeleteFunc of those right. -/
import Derived.Test.YtijglbolppkefaaGreatDoorDtAC
import Derived.Test.YtijglbolppkefaaGreatDoorEnJN
import Derived.Laws.IdiomCopy
import Derived.Shelf.Spec.SlicesInsertGrow
import Derived.Test.YtijglbolppkefaaGreatDoorMPlMN
set_option linter.unusedVariables false
set_option linter.unusedSimpArgs false
set_option maxHeartbeats 25600000
set_option maxRecDepth 100000
namespace Go.Proofs.YtijglbolppkefaaGreatDoor
open Go.Proofs.Tryz
open Go Go.RowKit Go.Proofs.BerK Go.Proofs.MemK Go.Proofs.UtfK
variable {p : Av -> Bool} {Lq R : List Av} {i j : Nat}
theorem zmk {p:Prop} (h:p:=by
 have ug:=za6 hm (hb.block bb zbb)
 rw [ziu ug underlying60 (ziA w') p hp]
 unfold zS
 rw [hK]
 by_cases h0:K=[]
 ·have e:=fR h0
  rw [hv] at e
  rw [if_pos h0,Option.getD_none,<- e,hn]
 rw [if_neg h0,Option.getD_some,hv,hn]):p:=h
theorem zml {p:Prop} (h:p:=by
 simp only [Value.slice.injEq,Option.some.injEq,Addr.mk.injEq,and_true,true_and] at h'
 obtain ⟨rfl,rfl⟩:=h'
 exact ⟨f9,gS⟩):p:=h
theorem zmn {p:Prop} (h:p:=by
 rw [e2,hg] at cO
 injection cO with cO
 injection cO with _ h5 _
 exact absurd h5 De):p:=h
theorem zmo {p:Prop} (h:p:=by
 have:=congrArg (List.drop 1) h3
 rw [List.drop_drop,List.drop_drop] at this
 exact this):p:=h
theorem zmp:∀ (r:List Av) (k:Nat),avc (r.take k)=(avc r).take (k*2)
 | _,0=>by simp [avc]
 | [],_+1=>by simp [avc]
 | p :: r,k+1=>by
  rw [List.take_succ_cons,zbN,zbN,zmp r k,show (k+1)*2=k*2+1+1 by omega,List.take_succ_cons,List.take_succ_cons]
theorem ztH (r:List Av):∀ v∈avc r,v.oneCell'=true:=by
 intro v hv
 obtain ⟨p,_,hp⟩:=List.mem_flatMap.1 hv
 simp at hp
 rcases hp with rfl | rfl <;> rfl
def zb6 (n:Nat):List Value:=(Builtin.zeroCells (Value.agg #[.string ByteArray.empty,.string ByteArray.empty]).cells n).toList
theorem zfh (n:Nat):(zb6 n).length=n*2:=by
 unfold zb6 Builtin.zeroCells
 simp [Value.cells]
theorem ztI (n:Nat):∀ v∈zb6 n,v.oneCell'=true:=by
 intro v hv
 unfold zb6 Builtin.zeroCells at hv
 simp [Value.cells] at hv
 obtain ⟨a,_,rfl⟩:=hv
 rcases (show a%2=0\/a%2=1 by omega) with h | h <;> simp [h,Value.oneCell']
def ztJ (p:Av->Bool) (Lq:List Av) (w:World) (en:Ending) (w':World):Prop :=
 ((en=.returned (.int .i64 (-1))/\∀ q∈Lq,p q=false)\/∃ i:Nat,en=.returned (.int .i64 (i:Nat))/\∃ h:i<Lq.length,p Lq[i]=true/\∀ q∈Lq.take i,p q=false)/\Below w.heap.size w w'
def zmq (p:Av->Bool) (Lq:List Av) (B:Nat) (ov:Value) (w:World) (en:Ending) (w':World):Prop :=
 ∃ v,en=.returned v/\w'.ownsRow B 79 2 v (Lq.filter fun q => !p q).length (avc (Lq.filter fun q => !p q))/\Chg (fun k=>some k=ov.ownBlock) w w'/\v.ownBlock=ov.ownBlock
def zc9 (p:Av->Bool) (Lq R:List Av) (i j:Nat):Prop:=R.length=Lq.length/\R.take i=(Lq.take j).filter (fun q => !p q)/\R.drop j=Lq.drop j/\i<j/\j<=Lq.length
theorem ztK (hi:i<Lq.length) (hp:p Lq[i]=true) (ha:∀ q∈Lq.take i,p q=false):zc9 p Lq Lq i (i+1):=by
 refine ⟨rfl,?_,rfl,by omega,hi⟩
 rw [List.take_succ_eq_append_getElem hi,List.filter_append]
 have e1:(Lq.take i).filter (fun q => !p q)=Lq.take i:=List.filter_eq_self.2 fun q hq=>by simp [ha q hq]
 rw [e1]
 simp [hp]
theorem ztL (h:zc9 p Lq R i j) (hj:j<Lq.length):∃ h1:j<R.length,R[j]=Lq[j]:=by
 have h1:j<R.length:=by rw [h.1];exact hj
 refine ⟨h1,?_⟩
 have h2:=congrArg (fun l=>l[0]?) h.2.2.1
 simp only [List.getElem?_drop,Nat.add_zero,List.getElem?_eq_getElem h1,List.getElem?_eq_getElem hj,Option.some.injEq] at h2
 exact h2
theorem ztM (h:zc9 p Lq R i j) (hj:j<Lq.length) (hp:p Lq[j]=true):zc9 p Lq R i (j+1):=by
 obtain ⟨h1,h2,h3,h4,h5⟩:=h
 refine ⟨h1,?_,?_,by omega,hj⟩
 ·rw [h2,List.take_succ_eq_append_getElem hj,List.filter_append]
  simp [hp]
 exact zmo
theorem ztN (h:zc9 p Lq R i j) (hj:j<Lq.length) (hp:p Lq[j]=false):zc9 p Lq (R.set i Lq[j]) (i+1) (j+1):=by
 obtain ⟨h1,h2,h3,h4,h5⟩:=h
 have hi:i<(R.set i Lq[j]).length:=by rw [List.length_set];omega
 refine ⟨by rw [List.length_set];exact h1,?_,?_,by omega,hj⟩
 ·rw [List.take_succ_eq_append_getElem hi,List.getElem_set_self,List.take_set_of_le Lr,h2,List.take_succ_eq_append_getElem hj,List.filter_append]
  simp [hp]
 rw [List.drop_set_of_lt Om]
 exact zmo
theorem ztO (h:zc9 p Lq R i Lq.length):R.take i=Lq.filter (fun q => !p q)/\i=(Lq.filter (fun q => !p q)).length/\i<R.length:=by
 obtain ⟨h1,h2,h3,h4,h5⟩:=h
 rw [List.take_length] at h2
 refine ⟨h2,?_,by omega⟩
 rw [<- h2,List.length_take]
 omega
theorem ztP (p:Av->Bool) (cap:Value) (w:World):Calls prog 113 #[.slice none 0 0,.func (.func 66) #[] #[cap]] w (fun en w'=>en=.returned (.int .i64 (-1))/\w=w'):=by
 go_enter func113,ntmps113
 go_wp2
 go_loop [8] (fun v=>v=.int .i64 (0:Nat)) (fun v=>0)
 case atStart=>rfl
 case round =>
  obtain rfl:=hrel
  go_wp2
  go_ret
  exact ⟨rfl,rfl⟩
def ClC (p:Av->Bool) (ov cap:Value) (w:World):Prop:=∀ (W:World) (t m:Bs),Chg (fun k=>some k=ov.ownBlock) w W->Calls prog 66 #[.agg #[.string ⟨t.toArray⟩,.string ⟨m.toArray⟩],cap] W (BB (p (t,m)) W)
theorem ztQ (p:Av->Bool) (Lq:List Av) (B g c:Nat) (w:World) (cap:Value) (hr:w.ownsRow B 79 2 (.slice (some ⟨g,0,none⟩) Lq.length c) Lq.length (avc Lq)) (bG:ClC p (.slice (some ⟨g,0,none⟩) Lq.length c) cap w) (hl:Lq.length<=1000000) :
  Calls prog 113 #[.slice (some ⟨g,0,none⟩) Lq.length c,.func (.func 66) #[] #[cap]] w (ztJ p Lq w):=by
 have HC:=Hy (fun (W:World) (hb:Below w.heap.size w W) t m=>bG W t m (Chg.ofBelow hb))
 have HR:=Hy hr
 have bZ:=(hr.lt g rfl).2
 obtain ⟨n,hn⟩:=Ex Lq.length
 have HL:=Hy hn
 rw [hn] at hl ⊢
 clear hr bG hn
 go_enter func113,ntmps113
 go_wp2
 go_loopw [8] (fun v wr=>∃ k:Nat,k<=n/\v=.int .i64 (k:Nat)/\Below w.heap.size w wr/\∀ q∈Lq.take k,p q=false) (fun v _=>n - (intOf v).toNat)
 case atStart=>exact ⟨0,by omega,rfl,Br _,fun q hq=>by simp at hq⟩
 case round =>
  obtain ⟨k,hk,rfl,hb,af⟩:=hrel
  by_cases aj:k<n
  ·have bh:(k:Int)<(n:Int):=by omega
   have aO:k<Lq.length:=by rw [HL.o];exact aj
   obtain ⟨h1,h2⟩:=zbO Lq k aO
   have c0:=(hb.cell (p:=⟨g,k*2,none⟩) bZ).trans ((HR.o.cellAt _ Om).trans h1)
   have c1:=(hb.cell (p:=⟨g,k*2+1,none⟩) bZ).trans ((HR.o.cellAt _ Om).trans h2)
   obtain ⟨⟨t,m⟩,ht⟩:∃ x,Lq[k]=x:=⟨_,rfl⟩
   rw [ht] at c0 c1
   dsimp only at c0 c1
   have dq:=Hy (HC.o wr hb t m)
   cases hp:p (t,m) with
   | true =>
    rw [hp] at dq
    have H:=Hy (An hb (An af (show p Lq[k]=true by rw [ht];exact hp)))
    clear hb af h1 h2 ht hp
    go_wp2_with fail
    refine dq.o.mono ?_
    rintro e w5 ⟨rfl,ai⟩
    have H5:=Hy ai
    clear ai c0 c1
    go_wp2
    go_ret
    exact ⟨.inr ⟨k,rfl,aO,H.o.2.2,H.o.2.1⟩,H.o.1.trans (H5.o.mono H.o.1.size)⟩
   | false =>
    rw [hp] at dq
    have H:=Hy (An hb (show ∀ q∈Lq.take (k+1),p q=false from zv3 aO af (by rw [ht];exact hp)))
    clear hb af h1 h2 ht hp
    go_wp2_with fail
    refine dq.o.mono ?_
    rintro e w5 ⟨rfl,ai⟩
    have H5:=Hy ai
    clear ai c0 c1
    go_wp2
    exact ⟨⟨k+1,by omega,by go_num,H.o.1.trans (H5.o.mono H.o.1.size),H.o.2⟩,by simp [intOf];omega⟩
  obtain rfl:k=n:=by omega
  have H:=Hy (An hb (show ∀ q∈Lq,p q=false by rw [<- HL.o,List.take_length] at af;exact af))
  clear hb af
  go_wp2
  go_ret
  exact ⟨.inl ⟨rfl,H.o.2⟩,H.o.1⟩
theorem ztR (p:Av->Bool) (Lq:List Av) (B g c:Nat) (w:World) (cap:Value) (hr:w.ownsRow B 79 2 (.slice (some ⟨g,0,none⟩) Lq.length c) Lq.length (avc Lq)) (bG:ClC p (.slice (some ⟨g,0,none⟩) Lq.length c) cap w) (hl:Lq.length<=1000000) :
  Calls prog 65 #[.slice (some ⟨g,0,none⟩) Lq.length c,.func (.func 66) #[] #[cap]] w (zmq p Lq B (.slice (some ⟨g,0,none⟩) Lq.length c) w):=by
 have HX:=Hy (ztQ p Lq B g c w cap hr bG hl)
 have HC:=Hy bG
 have HR:=Hy hr
 have bZ:=(hr.lt g rfl).2
 have f9:Lq.length<=c/\c<=maxLen:=by
  rcases hr.2 with ⟨h',_⟩ | ⟨g',cap',cur,h',hB,hg,f9,gS,bQ,ht⟩
  ·cases h'
  exact zml
 obtain ⟨GZ,hnc2⟩:=f9
 obtain ⟨n,hn⟩:=Ex Lq.length
 have HL:=Hy hn
 rw [hn] at hl HX GZ ⊢
 clear hr bG hn
 go_enter func65,ntmps65
 go_wp2_with fail
 refine HX.o.mono ?_
 rintro e w1 ⟨hx,au⟩
 have cr:=Hy au
 clear au
 rcases hx with ⟨rfl,eC⟩ | ⟨i0,rfl,oD,oo,LR⟩
 ·have H:=Hy eC
  clear eC
  go_wp2
  go_ret
  refine ⟨_,rfl,?_,Chg.ofBelow cr.o,rfl⟩
  have e:(Lq.filter fun q => !p q)=Lq:=List.filter_eq_self.2 fun q hq=>by simp [H.o q hq]
  rw [e,HL.o]
  have:=zu HR.o cr.o
  rw [HL.o] at this
  exact this
 have hi0n:i0<n:=by rw [<- HL.o];exact oD
 have G0:(i0:Int) ≠ -1:=by omega
 have Ef:=Hy (ztK oD oo LR)
 have hz:((i0:Int) == -1)=false:=by rw [beq_eq_false_iff_ne];omega
 clear oo LR
 go_wp2
 go_loopw [5,6] (fun v5 v6 wr=>∃ (i j:Nat) (R:List Av),j<=n/\v5=.int .i64 (i:Nat)/\v6=.int .i64 (j:Nat)/\i<j/\zc9 p Lq R i j/\wr.ownsRow B 79 2 (.slice (some ⟨g,0,none⟩) n c) n (avc R)/\Chg (fun k=>some k=(Value.slice (some ⟨g,0,none⟩) n c).ownBlock) w wr) (fun _ v _=>n - (intOf v).toNat)
 case atStart=>exact ⟨i0,i0+1,Lq,by omega,rfl,by go_num,by omega,Ef.o,by have:=zu HR.o cr.o;rw [HL.o] at this;exact this,Chg.ofBelow cr.o⟩
 case round =>
  clear HX Ef hz G0
  obtain ⟨i,j,R,hj,rfl,rfl,oA,hD,aA,bj⟩:=hrel
  by_cases aj:j<n
  ·have lT:(j:Int)<(n:Int):=by omega
   have cW:(i:Int)<(n:Int):=by omega
   have jq:j<Lq.length:=by rw [HL.o];exact aj
   obtain ⟨hjR,ejR⟩:=ztL hD jq
   obtain ⟨h1,h2⟩:=zbO R j hjR
   rw [ejR] at h1 h2
   have c0:=(aA.cellAt (j*2) Om).trans h1
   have c1:=(aA.cellAt (j*2+1) Om).trans h2
   have Bp:=ztM hD jq
   have Bt:=ztN hD jq
   obtain ⟨q,G1⟩:=Ex (Lq[j])
   rw [G1] at c0 c1 Bp Bt
   obtain ⟨t,m⟩:=q
   simp only [] at c0 c1 Bp Bt
   have eB:=(aA.lt g rfl).2
   obtain ⟨W2,aL⟩:=Ex (wr.alloc (.cells #[.string ⟨t.toArray⟩,.string ⟨m.toArray⟩] 79))
   have ak:=Nb aL
   have y2:=Nw aL
   have uh:=bj.below (ak.mono bj.size)
   have dq:=Hy (HC.o W2 t m (by rw [HL.o];exact uh.mono Fi))
   have fp:=Hy aL
   obtain ⟨G2,G3⟩:=zf y2
   rw [<- aL] at G2 G3
   cases hp:p (t,m) with
   | true =>
    rw [hp] at dq
    have H:=Hy (An aA (An bj (An ak (Bp hp))))
    clear aA bj ak Bp Bt hD h1 h2 G1 uh y2 aL ejR hp
    go_wp2_with fail
    rw [fp.o]
    refine dq.o.mono ?_
    rintro e w5 ⟨rfl,ai⟩
    have H5:=Hy (H.o.2.2.1.trans (ai.mono H.o.2.2.1.size))
    clear ai c0 c1 G2 G3
    go_wp2
    exact ⟨⟨i,j+1,R,by omega,rfl,by go_num,by omega,H.o.2.2.2,zu H.o.1 H5.o,H.o.2.1.below (H5.o.mono H.o.2.1.size)⟩,by simp [intOf];omega⟩
   | false =>
    rw [hp] at dq
    have H:=Hy (An aA (An bj (An ak (An (Bt hp) (An hD y2)))))
    clear aA bj ak Bp Bt hD h1 h2 G1 uh aL ejR hp y2
    go_wp2_with fail
    rw [fp.o]
    refine dq.o.mono ?_
    rintro e w5 ⟨rfl,ai⟩
    clear c0 c1 G2 G3
    have az:=H.o.2.2.1.trans (ai.mono H.o.2.2.1.size)
    have p6:=zu H.o.1 az
    have y5:=Ob H.o.2.2.2.2.2 ai
    obtain ⟨j0,j1⟩:=zf y5
    have LV:i<R.length:=by rw [H.o.2.2.2.2.1.1,HL.o];omega
    obtain ⟨r1,r2⟩:=zbO R i LV
    have s0:=(p6.cellAt (i*2) Om).trans r1
    have s1:=(p6.cellAt (i*2+1) Om).trans r2
    have f0:=p6.frozenAt (i*2)
    have f1:=p6.frozenAt (i*2+1)
    have bm:=zd5 (zd5 p6 (i*2) (.string ⟨t.toArray⟩)) (i*2+1) (.string ⟨m.toArray⟩)
    rw [zlR R i LV (t,m)] at bm
    have mL:=H.o.2.1.below (az.mono H.o.2.1.size)
    have Bu:Chg (fun k=>some k=(Value.slice (some ⟨g,0,none⟩) n c).ownBlock) w ((w5.setCell ⟨g,i*2,none⟩ (.string ⟨t.toArray⟩)).setCell ⟨g,i*2+1,none⟩ (.string ⟨m.toArray⟩)):=(mL.setCell (p:=⟨g,i*2,none⟩) (fun _=>rfl) _).setCell (p:=⟨g,i*2+1,none⟩) (fun _=>rfl) _
    have H5:=Hy (An bm Bu)
    clear ai az p6 y5 r1 r2 bm mL Bu
    go_wp2
    exact ⟨⟨i+1,j+1,R.set i (t,m),by omega,by go_num,by go_num,by omega,H.o.2.2.2.1,H5.o.1,H5.o.2⟩,by simp [intOf];omega⟩
  obtain rfl:j=n:=by omega
  have kJ:zc9 p Lq R i Lq.length:=by rw [HL.o];exact hD
  obtain ⟨e1,e2,e3⟩:=ztO kJ
  have iB:R.length=j:=by rw [hD.1,HL.o]
  have hij2:(i:Int)<=(j:Int):=by omega
  have hjc:(j:Int)<=(c:Int):=by omega
  have hic:(i:Int)<=(c:Int):=by omega
  have hclr:∀ ty,(Builtin.clear_ #[76] ty #[.slice (some ⟨g,i*2,none⟩) (j - i) (c - i)]).run prog wr=.ok (.tuple #[]) (wr.setCells g (i*2) (zb6 (j - i))):=fun ty=>by
   refine zvg wr _ 79 ty (.agg #[.string ByteArray.empty,.string ByteArray.empty]) underlying76 Tryz.zeroValue79 (fun _ _=>trivial) g (i*2) (j - i) (c - i) ((j - i)*2) Om (zb6 (j - i)) rfl (zfh _) (ztI _) (fun q hq=>?_) (fun q hq=>aA.frozenAt _)
   rw [aA.cellAt _ Om,List.getElem?_eq_getElem (by rw [zcj];omega)]
   rfl
  have ui:=zvi aA i Om
  rw [<- zmp,e1] at ui
  obtain ⟨k1,k2⟩:=zvh (zb6 (j - i)) wr (i*2) ui Lr
  have H:=Hy (An k1 (An (bj.trans (k2.mono (fun k _ h=>(by show some k=some g;rw [h]))) Fi) e2))
  clear ui k1 k2 aA bj hD kJ e1 e2 e3
  go_wp2
  go_ret
  refine ⟨_,rfl,?_,H.o.2.1,rfl⟩
  rw [<- H.o.2.2]
  exact H.o.1
theorem ztS (p:Av->Bool) (Lq:List Av) (n B:Nat) (ov:Value) (w:World) (cap:Value) (hr:w.ownsRow B 79 2 ov n (avc Lq)) (bG:ClC p ov cap w) (hl:n<=1000000) :
  Calls prog 65 #[ov,.func (.func 66) #[] #[cap]] w (zmq p Lq B ov w):=by
 have hn:Lq.length=n:=by have:=hr.1;rw [zcj] at this;omega
 subst hn
 rcases hr.2 with ⟨rfl,h0⟩ | ⟨g,c,cur,rfl,_⟩
 ·have e:Lq=[]:=List.eq_nil_of_length_eq_zero h0
  subst e
  have HX:=Hy (ztP p cap w)
  clear hr bG hl h0
  go_enter func65,ntmps65
  go_wp2_with fail
  refine HX.o.mono ?_
  rintro e w1 ⟨rfl,hw⟩
  obtain rfl:=hw.symm
  go_wp2
  go_ret
  exact ⟨_,rfl,World.ownsRow_nil _ _ _ _,Chg.refl _ _,rfl⟩
 exact ztR p Lq B g c w cap hr bG hl
end Go.Proofs.YtijglbolppkefaaGreatDoor
namespace Go.Proofs.YtijglbolppkefaaGreatDoor
open Go.Proofs.Tryz
open Go Go.RowKit Go.Proofs.BerK Go.Proofs.MemK Go.Proofs.UtfK Go.Lib
variable {B c g n s : Nat} {e : TypeId} {w : World} {xs : List Value}
theorem zgj {P:Program} (k:Nat) (w:World) (dT sT ty elem:TypeId) (b o dLen dCap:Nat) (a:Addr) (sLen sCap m:Nat) (cs:List Value)
  (hu:P.underlying dT=some (.slice elem)) (hs:(P.info? elem).map (·.size)=some k) (hn:m=Nat.min sLen dLen) (hl:cs.length=m*k)
  (G4:∀ j v,cs[j]?=some v->w.cell? (a.add j)=some v) (hc:∀ j,j<cs.length->(w.cell? ⟨b,o+j,none⟩).isSome=true) (hf:∀ j,j<cs.length->w.frozen? ⟨b,o+j,none⟩=false) (h1:∀ v∈cs,v.oneCell'=true) :
  (Builtin.copy_ #[dT,sT] ty #[.slice (some ⟨b,o,none⟩) dLen dCap,.slice (some a) sLen sCap]).run P w=.ok (goInt m) (w.setCells b o cs):=by
 have LW:=run_loadCells_list (P:=P) w a cs G4
 have bm:=run_storeCells_cells (P:=P) b o cs 0 w (by simpa using hc) (by simpa using hf) h1
 rw [hl] at LW
 cases hq:P.info? elem with
 | none=>simp [hq] at hs
 | some i =>
  have hi:i.size=k:=by simpa [hq] using hs
  simp [Builtin.copy_,run_underlying hu,Builtin.lenOf,Builtin.firstCells,sizeOf,typeInfo,hq,hi,<- hn,LW,bm]
def zcy (xs:List Value):Nat->List Value->List Value
 | _,[]=>xs
 | o,u :: us=>zcy (xs.set o u) (o+1) us
theorem zfi:∀ (us a b c:List Value),b.length=us.length->zcy (a++b++c) a.length us=a++us++c
 | [],a,b,c,h=>by
  have:b=[]:=List.eq_nil_of_length_eq_zero h
  subst this;rfl
 | u :: us,a,[],c,h=>by simp at h
 | u :: us,a,x :: b,c,h=>by
  show zcy ((a++(x :: b)++c).set a.length u) (a.length+1) us=_
  have e1:(a++(x :: b)++c).set a.length u=(a++[u])++b++c:=by
   rw [List.append_assoc,List.set_append_right _ _ Lr]
   simp
  have e2:a.length+1=(a++[u]).length:=by simp
  rw [e1,e2,zfi us (a++[u]) b c (by simpa using h)]
  simp
theorem zgk {m:Nat} (us:List Value):∀ (w:World) (o:Nat) (xs:List Value),w.ownsRow B e s (.slice (some ⟨g,0,none⟩) m c) n xs->(w.setCells g o us).ownsRow B e s (.slice (some ⟨g,0,none⟩) m c) n (zcy xs o us)/\Chg (fun k=>k=g) w (w.setCells g o us):=by
 induction us with
 | nil=>intro w o xs h;exact ⟨h,Chg.refl _ _⟩
 | cons u us ih =>
  intro w o xs h
  obtain ⟨h2,h3⟩:=ih (w.setCell ⟨g,o,none⟩ u) (o+1) (xs.set o u) (zd5 h o u)
  have hc:Chg (fun k=>k=g) w (w.setCell ⟨g,o,none⟩ u):=(Chg.refl (fun k=>k=g) w).setCell (p:=⟨g,o,none⟩) (fun _=>rfl) u
  exact ⟨h2,hc.trans h3 Fi⟩
theorem ztT {k:Nat} (h:w.ownsRow B e s (.slice (some ⟨g,0,none⟩) n c) n xs) (hk:n+k<=c):∃ ys,ys.length=k*s/\w.ownsRow B e s (.slice (some ⟨g,0,none⟩) (n+k) c) (n+k) (xs++ys):=by
 have hl:=h.1
 rcases h.2 with ⟨h',_⟩ | ⟨g',cap',cur,h',hB,hg,f9,gS,bQ,ht⟩
 ·cases h'
 simp only [Value.slice.injEq,Option.some.injEq,Addr.mk.injEq,and_true,true_and] at h'
 obtain ⟨rfl,rfl⟩:=h'
 have hm:=Nat.mul_le_mul_right s hk
 rw [Nat.add_mul] at hm
 have e1:cur.toList.take ((n+k)*s)=xs++(cur.toList.drop (n*s)).take (k*s):=by
  rw [Nat.add_mul,List.take_add,ht]
 have e2:((cur.toList.drop (n*s)).take (k*s)).length=k*s:=by
  rw [List.length_take,List.length_drop,Array.length_toList,bQ];omega
 exact ⟨_,e2,by rw [List.length_append,hl,e2,Nat.add_mul],.inr ⟨g,c,cur,rfl,hB,hg,hk,gS,bQ,e1⟩⟩
theorem zmr (h:w.ownsRow B e s (.slice (some ⟨g,0,none⟩) n c) n xs):n<=c/\c<=maxLen:=by
 rcases h.2 with ⟨h',_⟩ | ⟨g',cap',cur,h',hB,hg,f9,gS,bQ,ht⟩
 ·cases h'
 exact zml
theorem ztU (h:w.ownsRow B e s (.slice (some ⟨g,0,none⟩) n c) n xs):B<=g/\∃ cur,w.heap[g]?=some (.cells cur e (0,0))/\cur.size=c*s:=by
 rcases h.2 with ⟨h',_⟩ | ⟨g',cap',cur,h',hB,hg,f9,gS,bQ,ht⟩
 ·cases h'
 simp only [Value.slice.injEq,Option.some.injEq,Addr.mk.injEq,and_true,true_and] at h'
 obtain ⟨rfl,rfl⟩:=h'
 exact ⟨hB,cur,hg,bQ⟩
theorem Tryz.dtinfo:(prog.info? 79).map (fun i=>(i.zero,i.size,i.bytes))=some (some (.agg #[.string ByteArray.empty,.string ByteArray.empty]),2,32):=by kernel_rfl
theorem zgl:(prog.info? 79).map (·.size)=some 2:=by kernel_rfl
def zgm (K:List Av) (B:Nat) (v:Value) (w:World) (en:Ending) (w':World):Prop :=
 ∃ v',en=.returned v'/\w'.ownsRow B 79 2 v' K.length (avc K)/\Chg (fun k=>some k=v.ownBlock) w w'/\(v'.ownBlock=v.ownBlock\/∃ k,v'.ownBlock=some k/\w.heap.size<=k)
theorem ztV (K:List Av) (c:Av) (v:Value) (B vb:Nat) (w:World) (hr:w.ownsRow B 79 2 v K.length (avc K)) (hl:K.length<=1000000) (hB:B<=w.heap.size) (ff:w.heap[vb]?=some (.cells (avc [c]).toArray 79 (0,0))) :
  Calls prog 63 #[v,.int .i64 (K.length:Nat),.slice (some ⟨vb,0,none⟩) 1 1] w (zgm (K++[c]) B v w):=by
 obtain ⟨va,vc,rfl⟩:=zh hr
 have HR:=Hy hr
 have HV:=Hy (show w.ownsRow 0 79 2 (.slice (some ⟨vb,0,none⟩) 1 1) 1 (avc [c]) from ⟨rfl,.inr ⟨vb,1,_,rfl,Nat.zero_le _,ff,Nat.le_refl _,by decide,rfl,rfl⟩⟩)
 obtain ⟨n,hn⟩:=Ex K.length
 have HL:=Hy hn
 have HX:=Hy (show w.ownsRow B 79 2 (.slice va n vc) n (avc K) by rw [<- hn];exact hr)
 rw [hn] at hl ⊢
 have wL:n<=vc\/va=none:=by
  rcases HX.o.2 with ⟨h',_⟩ | ⟨g',cap',cur,h',hB,hg,f9,gS,bQ,ht⟩
  ·injection h' with h1 h2 h3;exact .inr h1
  injection h' with h1 h2 h3;subst h3;exact .inl f9
 clear hr hn ff
 go_enter func63,ntmps63
 go_wp2_with (at_builtin;refine zwc rfl (.tmp 23) (.tmp 24) 76 79 rfl B 2 32 _ Tryz.dtinfo underlying76 rfl De (.slice va n vc) n (avc K) rfl HX.o (.slice (some ⟨vb,0,none⟩) 1 1) 0 1 (avc [c]) rfl HV.o (zdf _) Mx Om hB ?_)
 all_goals
  intro v' w' h1 h2 h3
  obtain ⟨a',c',Bv⟩:=zh h1
  subst Bv
  have H:=Hy (An h1 (An h2 h3))
  clear h1 h2 h3
  go_wp2
  go_ret
  refine ⟨_,rfl,?_,H.o.2.1.mono (fun k _ hk=>by cases va <;> exact hk),by cases va <;> exact H.o.2.2⟩
  have:=H.o.1
  rw [<- zde] at this
  rw [List.length_append,HL.o]
  exact this
theorem ztW (K:List Av) (c:Av) (i g vc:Nat) (B vb:Nat) (w:World) (hr:w.ownsRow B 79 2 (.slice (some ⟨g,0,none⟩) K.length vc) K.length (avc K)) (hl:K.length<=1000000) (hi:i<K.length) (bD:K.length+1<=vc) (ff:w.heap[vb]?=some (.cells (avc [c]).toArray 79 (0,0))) (aH:vb≠g) :
  Calls prog 63 #[.slice (some ⟨g,0,none⟩) K.length vc,.int .i64 (i:Nat),.slice (some ⟨vb,0,none⟩) 1 1] w (zgm (K.take i++c :: K.drop i) B (.slice (some ⟨g,0,none⟩) K.length vc) w):=by
 obtain ⟨f9,gS⟩:=zmr hr
 obtain ⟨ys,hy,iy⟩:=ztT (k:=1) hr bD
 obtain ⟨hBg,cur,Bw,bQ⟩:=ztU hr
 have oE:(avc K).length=2*K.length:=zcj K
 have bG:((avc K).drop (i*2)).length=(K.length - i)*2:=by rw [List.length_drop,oE];omega
 have LZ:∀ lb cb,(callFunc 111 #[.slice (some ⟨vb,0,none⟩) 1 1,.slice (some ⟨g,(i+1)*2,none⟩) lb cb]).run prog w=.ok (.value (.bool false)) w:=fun lb cb=>by
  rw [run_callFunc_extern func111 Kr Kr Kr (e:=Extern.SlicesOverlaps.overlaps #[76,76] #[4]) Kr,
   Lib.run_overlaps_apart w 76 4 79 underlying76 2 Tryz.sizeOf79 ⟨vb,0,none⟩ ⟨g,(i+1)*2,none⟩ 1 1 lb cb aH 79 79 2 (vc*2) (by unfold World.shape?;rw [ff];rfl) (by unfold World.shape?;rw [Bw];simp [bQ]) Om (by simp [World.frozen?,ff]) (by simp [World.frozen?,ff])]
  rfl
 have bH:∀ j,j<2*(K.length+1)->(w.cell? ⟨g,j,none⟩).isSome=true:=fun j hj=>by
  rw [iy.cellAt _ Om,List.getElem?_eq_getElem (by rw [List.length_append,oE,hy];omega)];rfl
 have jA:∀ j,w.frozen? ⟨g,j,none⟩=false:=fun j=>hr.frozenAt _
 have uj:∀ ty dc sc,(Builtin.copy_ #[76,76] ty #[.slice (some ⟨g,(i+1)*2,none⟩) (K.length - i) dc,.slice (some ⟨g,i*2,none⟩) (K.length+1 - i) sc]).run prog w.drew=.ok (goInt ((K.length - i:Nat):Int)) (w.drew.setCells g ((i+1)*2) ((avc K).drop (i*2))):=fun ty dc sc =>
  zgj 2 w.drew _ _ ty 79 g ((i+1)*2) (K.length - i) dc ⟨g,i*2,none⟩ (K.length+1 - i) sc (K.length - i) ((avc K).drop (i*2)) underlying76 zgl (by simp only [Nat.min_def];split <;> omega) bG
   (fun j v hj=>by
    rw [List.getElem?_drop] at hj
    rw [Addr.add_lit]
    have aj:i*2+j<(avc K).length:=(List.getElem?_eq_some_iff.1 hj).1
    exact ((hr.cellAt (i*2+j) Om).trans hj))
   (fun j hj=>bH _ Om) (fun j hj=>jA _) (fun v hv=>zdf _ v (List.mem_of_mem_drop hv))
 obtain ⟨W1,aB⟩:∃ W1,W1=w.drew.setCells g ((i+1)*2) ((avc K).drop (i*2)):=⟨_,rfl⟩
 have dD:w.drew.ownsRow B 79 2 (.slice (some ⟨g,0,none⟩) (K.length+1) vc) (K.length+1) (avc K++ys):=iy
 obtain ⟨oF,eX⟩:=zgk ((avc K).drop (i*2)) w.drew ((i+1)*2) _ dD
 rw [<- aB] at oF eX uj
 have sh:=oF.1
 have oG:W1.heap[vb]?=some (.cells (avc [c]).toArray 79 (0,0)):=(eX.block vb (zi (w:=w.drew) ff) aH).trans ff
 have Bx:∀ (W:World),W.heap=W1.heap->∀ ty dc,(Builtin.copy_ #[76,76] ty #[.slice (some ⟨g,i*2,none⟩) (K.length+1 - i) dc,.slice (some ⟨vb,0,none⟩) 1 1]).run prog W=.ok (goInt 1) (W.setCells g (i*2) (avc [c])):=fun W hW ty dc =>
  zgj 2 W _ _ ty 79 g (i*2) (K.length+1 - i) dc ⟨vb,0,none⟩ 1 1 1 (avc [c]) underlying76 zgl (by simp only [Nat.min_def];split <;> omega) rfl
   (fun j v hj=>by
    rw [Addr.add_lit,Nat.zero_add]
    have:W.heap[vb]?=some (.cells (avc [c]).toArray 79 (0,0)):=by rw [hW];exact oG
    rw [cell_of_row W vb j _ _ _ this]
    simpa using hj)
   (fun j hj=>by
    have:W.ownsRow B 79 2 (.slice (some ⟨g,0,none⟩) (K.length+1) vc) (K.length+1) (zcy (avc K++ys) ((i+1)*2) ((avc K).drop (i*2))):=zaZ oF hW
    have iG:j<2:=hj
    rw [this.cellAt _ Om,List.getElem?_eq_getElem (by rw [sh];omega)];rfl)
   (fun j hj=>by
    have:W.ownsRow B 79 2 (.slice (some ⟨g,0,none⟩) (K.length+1) vc) (K.length+1) (zcy (avc K++ys) ((i+1)*2) ((avc K).drop (i*2))):=zaZ oF hW
    exact this.frozenAt _) (zdf _)
 have et:∀ (W:World),W.heap=W1.heap->W.os=W1.os->W.tape=W1.tape->W.output=W1.output->(W.setCells g (i*2) (avc [c])).ownsRow B 79 2 (.slice (some ⟨g,0,none⟩) (K.length+1) vc) (K.length+1) (avc (K.take i++c :: K.drop i))/\Chg (fun k=>some k=(Value.slice (some ⟨g,0,none⟩) K.length vc).ownBlock) w (W.setCells g (i*2) (avc [c])):=by
  intro W q1 q2 q3 q4
  have ho:W.ownsRow B 79 2 (.slice (some ⟨g,0,none⟩) (K.length+1) vc) (K.length+1) (zcy (avc K++ys) ((i+1)*2) ((avc K).drop (i*2))):=zaZ oF q1
  obtain ⟨r1,r2⟩:=zgk (avc [c]) W (i*2) _ ho
  have wM:Chg (fun k=>k=g) w W:=⟨q2.trans eX.os,q3.trans eX.tape,q4.trans eX.output,by rw [q1];exact eX.size,fun k hk hn=>by rw [q1];exact eX.block k hk hn⟩
  refine ⟨?_,(wM.trans r2 Fi).mono (fun k _ hk=>by rw [hk];rfl)⟩
  have gh:(avc (K.take i)).length=i*2:=by rw [zcj,List.length_take];omega
  have e1:avc K=avc (K.take i)++avc (K.drop i):=by rw [<- zde,List.take_append_drop]
  have lR:(avc (K.drop i)).length=(K.length - i)*2:=by rw [zcj,List.length_drop];omega
  obtain ⟨K0,hK0⟩:=Ex (K.drop i)
  have e3:zcy (zcy (avc K++ys) ((i+1)*2) ((avc K).drop (i*2))) (i*2) (avc [c])=avc (K.take i++c :: K.drop i):=by
   have ed:(avc K).drop (i*2)=avc (K.drop i):=by rw [e1];exact List.drop_left' gh
   have f1:∃ x y,avc (K.drop i)++ys=x++y/\x.length=2/\y.length=(K.length - i)*2:=by
    refine ⟨(avc (K.drop i)++ys).take 2,(avc (K.drop i)++ys).drop 2,(List.take_append_drop _ _).symm,?_,?_⟩
    ·rw [List.length_take,List.length_append,lR,hy];omega
    rw [List.length_drop,List.length_append,lR,hy];omega
   obtain ⟨x,y,f2,f3,f4⟩:=f1
   rw [ed]
   have g1:avc K++ys=(avc (K.take i)++x)++y++[]:=by rw [e1,List.append_assoc,f2];simp
   have g2:(i+1)*2=(avc (K.take i)++x).length:=by rw [List.length_append,gh,f3];omega
   rw [g1,g2,zfi _ _ _ _ (by rw [f4,lR])]
   have g3:avc (K.take i)++x++avc (K.drop i)++[]=avc (K.take i)++x++avc (K.drop i):=by simp
   rw [g3,<- gh,zfi _ _ _ _ (by rw [f3];rfl)]
   rw [zde,zbN]
   simp [avc]
  rw [e3] at r1
  exact r1
 have HF:=Hy et
 have HOV:=LZ
 obtain ⟨n,hn⟩:=Ex K.length
 have HL:=Hy hn
 rw [hn] at uj Bx hl hi bD HF ⊢
 have ce:¬ ((i:Int)=(n:Int)):=by omega
 have cz:i<=n:=by omega
 have aK:(i:Int)<=(n:Int)+1:=by omega
 have hcm':vc<=9223372036854775807:=by unfold maxLen at gS;omega
 have ak:¬ (vc=i+1):=by omega
 have bf:¬ (vc=i):=by omega
 have mixed:prog.follows Departure.mixedOrders=true:=by kernel_rfl
 have f8:IntKind.i64.wrap ((i:Int)+1)=(i:Int)+1:=by rw [IntKind.wrap_i64];omega
 have au:(0:Int)<=(i:Int)+1:=by omega
 have Ev:((i:Int)+1).toNat=i+1:=by omega
 have ai:(i:Int)+1<=(n:Int)+1:=by omega
 have dV:(K.take i++c :: K.drop i).length=n+1:=by rw [List.length_append,List.length_take,List.length_cons,List.length_drop,hn];omega
 have G5:=Hy dV
 clear hr iy dD oF eX ff oG bH jA bQ Bw hy oE bG et hn LZ dV sh f9
 go_enter func63,ntmps63
 go_wp2_with (simp only [HOV])
 go_region_law_o (refine step_copy_runI rfl _ _ 76 76 rfl _ _ (by simp [Act.eval,Act.put]) (by simp [Act.eval,Act.put]) (uj _ _ _) ?_)
 go_wp2_with (at_builtin;refine wpList_copy_runI _ rfl _ _ 76 76 rfl _ _ rfl rfl (Bx _ rfl _ _) ?_)
 go_ret
 have h:=HF.o W1 rfl rfl rfl rfl
 rw [aB] at h
 exact ⟨_,rfl,by rw [G5.o];exact h.1,h.2,.inl rfl⟩
theorem ztX (K:List Av) (c:Av) (i g vc:Nat) (B vb:Nat) (w:World) (hr:w.ownsRow B 79 2 (.slice (some ⟨g,0,none⟩) K.length vc) K.length (avc K)) (hl:K.length<=1000000) (hB:B<=w.heap.size) (hi:i<K.length) (bD:vc<K.length+1) (ff:w.heap[vb]?=some (.cells (avc [c]).toArray 79 (0,0))) :
  Calls prog 63 #[.slice (some ⟨g,0,none⟩) K.length vc,.int .i64 (i:Nat),.slice (some ⟨vb,0,none⟩) 1 1] w (zgm (K.take i++c :: K.drop i) B (.slice (some ⟨g,0,none⟩) K.length vc) w):=by
 obtain ⟨f9,gS⟩:=zmr hr
 have bZ:g<w.heap.size:=(hr.lt g rfl).2
 have dt:vb<w.heap.size:=zi ff
 have oE:(avc K).length=2*K.length:=zcj K
 have bG:((avc K).drop (i*2)).length=(K.length - i)*2:=by rw [List.length_drop,oE];omega
 have gh:(avc (K.take i)).length=i*2:=by rw [zcj,List.length_take];omega
 obtain ⟨i0,oD,bO,jf,wN⟩:=info_parts Tryz.dtinfo
 have jJ:(Builtin.firstCells i0.size i (.slice (some ⟨g,0,none⟩) i vc)).run prog w.drew=.ok (avc (K.take i)).toArray w.drew:=by
  rw [jf]
  exact run_firstCells_some w.drew 2 i ⟨g,0,none⟩ i vc (avc (K.take i)) gh (fun j v hj=>by
   rw [Addr.add_lit,Nat.zero_add]
   have iG:j<i*2:=by have:=(List.getElem?_eq_some_iff.1 hj).1;omega
   rw [<- zop,List.getElem?_take,if_pos iG] at hj
   exact (hr.cellAt j Om).trans hj)
 have kG:i+(K.length+1 - i)=K.length+1:=by omega
 have eq:(K.length:Int)+1 - (i:Int)=((K.length+1 - i:Nat):Int):=by omega
 have Ew:∀ ty,(Builtin.append_ #[76,3] ty #[.slice (some ⟨g,0,none⟩) i vc,.int .i64 ((K.length:Int)+1 - (i:Int))]).run prog w =
   .ok (.slice (some ⟨w.heap.size,0,none⟩) (K.length+1) (grownCap w (K.length+1) vc 79)) (w.drew.alloc (.cells ((avc (K.take i)).toArray++Builtin.zeroCells (Value.agg #[.string ByteArray.empty,.string ByteArray.empty]).cells (K.length+1 - i)++Builtin.zeroCells (Value.agg #[.string ByteArray.empty,.string ByteArray.empty]).cells (grownCap w (K.length+1) vc 79 - (K.length+1))) 79)):=fun ty=>by
  have h:=Lib.run_append_grow_zeros w 76 3 ty 79 i0 _ .i64 .i64 underlying76 underlying3 oD bO (some ⟨g,0,none⟩) i vc (avc (K.take i)) jJ (K.length+1 - i) Om Om Om Om (by rw [wN];omega) (by rw [wN,kG];exact growslice_fits bD Om)
  rw [kG] at h
  rw [eq]
  exact h
 obtain ⟨G,hG⟩:=Ex (grownCap w (K.length+1) vc 79)
 have L0:K.length+1<=G:=by rw [<- hG];exact grownCap_ge w _ _ _
 have uk:G<=maxLen:=by rw [<- hG];exact grownCap_le_maxLen w _ _ _ Mx
 rw [hG] at Ew
 obtain ⟨W1,aB⟩:=Ex (w.drew.alloc (.cells ((avc (K.take i)).toArray++Builtin.zeroCells (Value.agg #[.string ByteArray.empty,.string ByteArray.empty]).cells (K.length+1 - i)++Builtin.zeroCells (Value.agg #[.string ByteArray.empty,.string ByteArray.empty]).cells (G - (K.length+1))) 79))
 rw [aB] at Ew
 have au:Below w.heap.size w W1:=by rw [<- aB];exact ((Br w).drew).alloc Lr _
 have By:=Nw aB
 have ab:W1.ownsRow B 79 2 (.slice (some ⟨w.heap.size,0,none⟩) (K.length+1) G) (K.length+1) (avc (K.take i)++zb6 (K.length+1 - i)):=by
  refine ⟨by rw [List.length_append,gh,zfh];omega,.inr ⟨w.heap.size,G,_,rfl,hB,By,L0,uk,?_,?_⟩⟩
  ·simp only [Array.size_append,List.size_toArray,gh,size_zeroCells]
   have ce:(Value.agg #[.string ByteArray.empty,.string ByteArray.empty]).cells.size=2:=rfl
   rw [ce];omega
  rw [Array.toList_append,Array.toList_append]
  have e:(avc (K.take i)++(Builtin.zeroCells (Value.agg #[.string ByteArray.empty,.string ByteArray.empty]).cells (K.length+1 - i)).toList).length=(K.length+1)*2:=by
   have:=zfh (K.length+1 - i)
   unfold zb6 at this
   rw [List.length_append,gh,this];omega
  rw [<- e]
  exact List.take_left
 have Bz:=ab.1
 have ul:∀ j,j<(K.length+1)*2->(W1.cell? ⟨w.heap.size,j,none⟩).isSome=true:=fun j hj=>by
  rw [ab.cellAt _ Om,List.getElem?_eq_getElem Om];rfl
 have oG:W1.heap[vb]?=some (.cells (avc [c]).toArray 79 (0,0)):=zj ff au dt
 have BA:∀ (W:World),W.heap=W1.heap->∀ ty dc,(Builtin.copy_ #[76,76] ty #[.slice (some ⟨w.heap.size,i*2,none⟩) (K.length+1 - i) dc,.slice (some ⟨vb,0,none⟩) 1 1]).run prog W=.ok (goInt 1) (W.setCells w.heap.size (i*2) (avc [c])):=fun W hW ty dc =>
  zgj 2 W _ _ ty 79 w.heap.size (i*2) (K.length+1 - i) dc ⟨vb,0,none⟩ 1 1 1 (avc [c]) underlying76 zgl (by simp only [Nat.min_def];split <;> omega) rfl
   (fun j v hj=>by
    rw [Addr.add_lit,Nat.zero_add,cell_of_row W vb j _ _ _ (by rw [hW];exact oG)]
    simpa using hj)
   (fun j hj=>by
    have iG:j<2:=hj
    have h:=zaZ ab hW
    rw [h.cellAt _ Om,List.getElem?_eq_getElem Om];rfl)
   (fun j hj=>(zaZ ab hW).frozenAt _) (zdf _)
 obtain ⟨W2,aL⟩:=Ex (W1.setCells w.heap.size (i*2) (avc [c]))
 obtain ⟨iH,p7⟩:=zgk (avc [c]) W1 (i*2) _ ab
 rw [aL] at iH p7
 have BC:=iH.1
 have um:Chg (fun k=>k=w.heap.size) w W2:=(Chg.ofBelow (S:=fun k=>k=w.heap.size) au).trans p7 Fi
 have iy:W2.ownsRow B 79 2 (.slice (some ⟨g,0,none⟩) K.length vc) K.length (avc K):=zz hr um (fun k hk e=>by
  have hk:g=k:=by simpa [Value.ownBlock] using hk
  have e:k=w.heap.size:=e
  omega)
 have BD:∀ (W:World),W.heap=W2.heap->∀ ty dc sc,(Builtin.copy_ #[76,76] ty #[.slice (some ⟨w.heap.size,(i+1)*2,none⟩) (K.length - i) dc,.slice (some ⟨g,i*2,none⟩) (K.length - i) sc]).run prog W=.ok (goInt ((K.length - i:Nat):Int)) (W.setCells w.heap.size ((i+1)*2) ((avc K).drop (i*2))):=fun W hW ty dc sc =>
  zgj 2 W _ _ ty 79 w.heap.size ((i+1)*2) (K.length - i) dc ⟨g,i*2,none⟩ (K.length - i) sc (K.length - i) ((avc K).drop (i*2)) underlying76 zgl (by simp only [Nat.min_def];split <;> omega) bG
   (fun j v hj=>by
    rw [List.getElem?_drop] at hj
    rw [Addr.add_lit]
    have aj:i*2+j<(avc K).length:=(List.getElem?_eq_some_iff.1 hj).1
    exact (((zaZ iy hW).cellAt (i*2+j) Om).trans hj))
   (fun j hj=>by
    have h:=zaZ iH hW
    rw [h.cellAt _ Om,List.getElem?_eq_getElem Om];rfl)
   (fun j hj=>(zaZ iH hW).frozenAt _) (fun v hv=>zdf _ v (List.mem_of_mem_drop hv))
 have et:∀ (W:World),W.heap=W2.heap->W.os=W2.os->W.tape=W2.tape->W.output=W2.output->(W.setCells w.heap.size ((i+1)*2) ((avc K).drop (i*2))).ownsRow B 79 2 (.slice (some ⟨w.heap.size,0,none⟩) (K.length+1) G) (K.length+1) (avc (K.take i++c :: K.drop i))/\Chg (fun k=>some k=(Value.slice (some ⟨g,0,none⟩) K.length vc).ownBlock) w (W.setCells w.heap.size ((i+1)*2) ((avc K).drop (i*2))):=by
  intro W q1 q2 q3 q4
  obtain ⟨r1,r2⟩:=zgk ((avc K).drop (i*2)) W ((i+1)*2) _ (zaZ iH q1)
  have wM:Chg (fun k=>k=w.heap.size) w W:=⟨q2.trans um.os,q3.trans um.tape,q4.trans um.output,by rw [q1];exact um.size,fun k hk hn=>by rw [q1];exact um.block k hk hn⟩
  refine ⟨?_,(wM.trans r2 Fi).mono (fun k hk e=>by have e:k=w.heap.size:=e;omega)⟩
  have wJ:(avc K).drop (i*2)=avc (K.drop i):=zoq K i
  have lR:(avc (K.drop i)).length=(K.length - i)*2:=by rw [zcj,List.length_drop];omega
  have e3:zcy (zcy (avc (K.take i)++zb6 (K.length+1 - i)) (i*2) (avc [c])) ((i+1)*2) ((avc K).drop (i*2))=avc (K.take i++c :: K.drop i):=by
   obtain ⟨x,y,f2,f3,f4⟩:∃ x y,zb6 (K.length+1 - i)=x++y/\x.length=2/\y.length=(K.length - i)*2:=by
    refine ⟨(zb6 (K.length+1 - i)).take 2,(zb6 (K.length+1 - i)).drop 2,(List.take_append_drop _ _).symm,?_,?_⟩
    ·rw [List.length_take,zfh];omega
    rw [List.length_drop,zfh];omega
   rw [wJ,f2,<- List.append_assoc,<- gh,zfi _ _ _ _ (by rw [f3];rfl)]
   have g2:(i+1)*2=(avc (K.take i)++avc [c]).length:=by rw [List.length_append,gh,zcj];simp;omega
   have g1:avc (K.take i)++avc [c]++y=avc (K.take i)++avc [c]++y++[]:=by simp
   rw [g1,g2,zfi _ _ _ _ (by rw [f4,lR])]
   rw [zde,zbN]
   simp [avc]
  rw [e3] at r1
  exact r1
 have HF:=Hy et
 obtain ⟨n,hn⟩:=Ex K.length
 rw [hn] at BA BD Ew hl hi bD L0 HF ⊢
 have ce:¬ ((i:Int)=(n:Int)):=by omega
 have jD:(vc:Int)<(n:Int)+1:=by omega
 have cz:i<=n:=by omega
 have hic:(i:Int)<=(vc:Int):=by omega
 have hG':G<=9223372036854775807:=by unfold maxLen at uk;omega
 have hGi:¬ (G=i):=by omega
 have hGim:¬ (G=i+1):=by omega
 have hci:¬ (vc=i):=by omega
 have aK:(i:Int)<=(n:Int):=by omega
 have hb3':(i:Int)<=(n:Int)+1:=by omega
 have mixed:prog.follows Departure.mixedOrders=true:=by kernel_rfl
 have f8:IntKind.i64.wrap ((i:Int)+1)=(i:Int)+1:=by rw [IntKind.wrap_i64];omega
 have n0:(0:Int)<=(i:Int)+1:=by omega
 have Ev:((i:Int)+1).toNat=i+1:=by omega
 have ai:(i:Int)+1<=(n:Int)+1:=by omega
 have dV:(K.take i++c :: K.drop i).length=n+1:=by rw [List.length_append,List.length_take,List.length_cons,List.length_drop,hn];omega
 have G5:=Hy dV
 have HW:=Hy (An aB aL)
 have HD1:W1.drew.heap=W1.heap:=rfl
 clear hr iy ab iH p7 um ff oG ul bG oE gh jJ kG eq au By et hn dV BC Bz oD bO jf wN hG uk gS f9 aB aL
 go_enter func63,ntmps63
 go_wp2_with (first
  | (at_builtin;refine Lib.wpList_append_run _ rfl _ _ _ _ rfl _ _ rfl rfl _ _ (Ew _) ?_)
  | (at_builtin;refine wpList_copy_runI _ rfl _ _ 76 76 rfl _ _ rfl rfl (BA W1 rfl _ _) ?_))
 rw [HW.o.2]
 have G6:=BD W2.drew rfl
 go_region_law_o (refine step_copy_runI rfl _ _ 76 76 rfl _ _ (by simp [Act.eval,Act.put]) (by simp [Act.eval,Act.put]) (G6 _ _ _) ?_)
 go_wp2
 go_ret
 have h:=HF.o W2.drew rfl rfl rfl rfl
 exact ⟨_,rfl,by rw [G5.o];exact h.1,h.2,.inr ⟨w.heap.size,rfl,Nat.le_refl _⟩⟩
theorem ztY (K:List Av) (c:Av) (i:Nat) (v:Value) (B vb:Nat) (w:World) (hr:w.ownsRow B 79 2 v K.length (avc K)) (hl:K.length<=1000000) (hB:B<=w.heap.size) (hi:i<=K.length) (ff:w.heap[vb]?=some (.cells (avc [c]).toArray 79 (0,0))) (aH:v.ownBlock≠some vb) :
  Calls prog 63 #[v,.int .i64 (i:Nat),.slice (some ⟨vb,0,none⟩) 1 1] w (zgm (K.take i++c :: K.drop i) B v w):=by
 by_cases he:i=K.length
 ·subst he
  rw [List.take_length,List.drop_length]
  exact ztV K c v B vb w hr hl hB ff
 rcases hr.2 with ⟨rfl,h0⟩ | ⟨g,cap,cur,rfl,_⟩
 ·omega
 by_cases bD:K.length+1<=cap
 ·exact ztW K c i g cap B vb w hr hl Om bD ff (fun e=>aH (by rw [e];rfl))
 exact ztX K c i g cap B vb w hr hl hB Om Om ff
end Go.Proofs.YtijglbolppkefaaGreatDoor
namespace Go.Proofs.YtijglbolppkefaaGreatDoor
open Go.Proofs.Tryz
open Go Go.RowKit Go.Proofs.BerK Go.Proofs.MemK Go.Proofs.UtfK Go.Maps Go.WideMaps
theorem ztZ (t m s:Bs) (bx:Nat) (W:World) (hc:W.cell? ⟨bx,0,none⟩=some (.string ⟨s.toArray⟩)) (hb:bx<W.heap.size) :
  Calls prog 66 #[.agg #[.string ⟨t.toArray⟩,.string ⟨m.toArray⟩],.pointer (some ⟨bx,0,none⟩)] W (BB (m==s) W):=by
 have aH:bx≠W.heap.size:=by omega
 have c1:∀ ob,(W.alloc ob).cell? ⟨bx,0,none⟩=some (.string ⟨s.toArray⟩):=fun ob=>(((Below.refl W.heap.size W).alloc Lr ob).cell (p:=⟨bx,0,none⟩) hb).trans hc
 have HB:=Hy (zwy m s)
 clear hc
 go_enter func66,ntmps66
 go_wp2
 go_ret
 exact zB rfl ((Br _).alloc Lr _)
def upK (KF:Bs->List Av) (p:Bs) (K:List Av):Bs->List Av:=fun q=>if q=p then K else KF q
def KdG (w:World) (g bb:Nat):Prop:=∃ sv eb,w.heap[g]?=some (.cells #[sv,.map (some eb),.map (some bb)] 62 (0,0))
def zms (B bb:Nat) (F:Bs->Value) (KF:Bs->List Av) (p l s:Bs) (w:World) (en:Ending) (w':World):Prop :=
 en=.returned (.tuple #[])/\∃ F' nb' i,i<=(KF p).length/\zgh (KF p) l i/\zgi (KF p) l i/\zI w' bb (zS (upK KF p ((KF p).take i++(l,s) :: (KF p).drop i)) F') nb'/\zb5 w' B F' (upK KF p ((KF p).take i++(l,s) :: (KF p).drop i)) /\
  Chg (fun k=>k=bb\/some k=(F p).ownBlock) w w'/\∀ q k,(F' q).ownBlock=some k->(F q).ownBlock=some k\/w.heap.size<=k
theorem ziC {w w':World} {B bb:Nat} {F:Bs->Value} {KF:Bs->List Av} {p:Bs} {K:List Av} {v:Value} (h:zb5 w B F KF) (eO:∃ es c,w.heap[bb]?=some (.map es c)) (hc:Chg (fun k=>k=bb\/some k=(F p).ownBlock) w w')
  (hv:w'.ownsRow B 79 2 v K.length (avc K)) (h0:K=[]->v=.slice none 0 0) (hb:∀ k,v.ownBlock=some k->(F p).ownBlock=some k\/w.heap.size<=k) :
  zb5 w' B (fun q=>if q=p then v else F q) (upK KF p K)/\∀ q k,((fun q=>if q=p then v else F q) q).ownBlock=some k->(F q).ownBlock=some k\/w.heap.size<=k:=by
 have ia:∀ q,q≠p->zaq v (F q):=fun q hq k h1 h2=>by
  rcases hb k h1 with h3 | h3
  ·exact ((h p).2.2 q (Ne.symm hq)) k h3 h2
  have:=((h q).2.1.lt k h2).2
  omega
 refine ⟨fun q=>?_,fun q k hk=>?_⟩
 ·unfold upK
  by_cases hq:q=p
  ·simp only [if_pos hq]
   refine ⟨h0,hv,fun q' oH=>?_⟩
   have:q'≠p:=fun e=>oH (by rw [hq,e])
   simp only [if_neg this]
   exact ia q' this
  simp only [if_neg hq]
  obtain ⟨h1,h2,h3⟩:=h q
  refine ⟨h1,zz h2 hc (fun k hk=>?_),fun q' oH=>?_⟩
  ·rintro (e | e)
   ·subst e
    obtain ⟨es,c,hm⟩:=eO
    rcases h2.2 with ⟨e,_⟩ | ⟨g',cap,cur,e,_,cO,_⟩
    ·rw [e] at hk;simp [Value.ownBlock] at hk
    rw [e] at hk
    simp [Value.ownBlock] at hk
    subst hk
    rw [hm] at cO;cases cO
   exact h3 p hq k hk e.symm
  by_cases hp:q'=p
  ·simp only [if_pos hp]
   exact (ia q hq).symm
  simp only [if_neg hp]
  exact h3 q' oH
 by_cases hq:q=p
 ·simp only [if_pos hq] at hk
  rw [hq];exact hb k hk
 simp only [if_neg hq] at hk
 exact .inl hk
theorem ziD (KF:Bs->List Av) (F:Bs->Value) (p:Bs) (K:List Av) (v:Value):zS (upK KF p K) (fun q=>if q=p then v else F q)=upF (zS KF F) p (if K=[] then none else some v):=by
 funext q
 unfold zS upK upF
 by_cases hq:q=p
 ·simp only [if_pos hq]
 simp only [if_neg hq]
theorem zt0 (B g bb nb:Nat) (F:Bs->Value) (KF:Bs->List Av) (s p l:Bs) (w:World) (hg:KdG w g bb) (hm:zI w bb (zS KF F) nb) (hk:zb5 w B F KF) (hB:B<=w.heap.size) (mM:nb<=1000000) (oI:zbY s=(l,true)) (mK:(KF p).Pairwise (fun a b=>ltB a.1 b.1=true)) (aF:(KF p).length<=1000000) (hp:p.length<=140737488355328) (he:zD w) :
  Calls prog 41 #[.pointer (some ⟨g,0,none⟩),.string ⟨s.toArray⟩,.string ⟨p.toArray⟩] w (zms B bb F KF p l s w):=by
 obtain ⟨sv,eb,hg⟩:=hg
 have zg:=zi hg
 have zbb:=zaS hm
 have sj:=Hy (show Calls prog 59 #[.string ⟨s.toArray⟩] w (zdG (l,true) w) from oI ▸ zpo s w he)
 have HK:=Hy hk
 have HM:=Hy hm
 obtain ⟨K,hK⟩:=Ex (KF p)
 have aA:=(hk p).2.1
 have fR:=(hk p).1
 rw [hK] at aA mK aF fR
 obtain ⟨va,vc,hv⟩:=zh aA
 obtain ⟨n,hn⟩:=Ex K.length
 have jK:∀ w',Below w.heap.size w w'->(Instr.lookup 60 (.map (some bb)) (.string ⟨p.toArray⟩) false).run prog w'=.ok (.slice va n vc) w':=fun w' hb=>by
  exact zmk
 have wO:=Hy jK
 have BE:=Hy (fun w' (hb:Below w.heap.size w w')=>ztC K l (.slice va K.length vc) B w' (zu (hv ▸ aA) hb) mK aF)
 have HI:=Hy (fun w' (hb:Below w.heap.size w w') vb (ff:w'.heap[vb]?=some (.cells (avc [(l,s)]).toArray 79 (0,0))) (hJ:w.heap.size<=vb) i (hi:i<=K.length) =>
  ztY K (l,s) i (.slice va K.length vc) B vb w' (zu (hv ▸ aA) hb) aF (Nat.le_trans hB hb.size) hi ff (fun e=>by
   have:=((hv ▸ aA:w.ownsRow B 79 2 (.slice va K.length vc) K.length (avc K)).lt vb e).2
   omega))
 have HX:=Hy (show ∀ k,(Value.slice va n vc).ownBlock=some k->k≠g/\k≠bb from fun k uo=>by
  have eq:(F p).ownBlock=some k:=by rw [hv,hn];exact uo
  rcases aA.2 with ⟨e,_⟩ | ⟨g',cap,cur,e,_,cO,_⟩
  ·rw [e] at eq;simp [Value.ownBlock] at eq
  rw [e] at eq
  simp [Value.ownBlock] at eq
  subst eq
  refine ⟨fun e2=>?_,fun e2=>?_⟩
  ·exact zmn
  obtain ⟨es,c,hq⟩:=zaY hm
  rw [e2,hq] at cO;cases cO)
 have HN:=Hy hn
 have wP:=Hy hg
 have HV:=Hy (An hv hK)
 rw [hn] at BE HI
 clear hk hm aA fR mK jK hv he oI hg hn aF hK
 go_enter func41,ntmps41
 go_wp2_with fail
 refine sj.o.mono ?_
 rintro e w2 ⟨rfl,ak⟩
 have uq:=wO.o w2 ak
 have k2:=(ze (zj wP.o ak zg)).2.2
 have bw:=Hy ak
 clear ak
 go_wp2_with fail
 refine (BE.o w2 bw.o).mono ?_
 rintro e w4 ⟨i,b,rfl,hi,kI,oB,bf⟩
 have H4:=Hy (An (An kI oB) (bw.o.trans (bf.mono bw.o.size)))
 have k2:=(ze (zj wP.o H4.o.2 zg)).2.2
 have HIi:=Hy (fun w' hb vb ff hJ=>HI.o w' hb vb ff hJ i (by rw [<- HN.o];exact hi))
 clear bf kI oB uq
 go_wp2
 have m2:∀ ob,(w4.drew.alloc ob).cell? ⟨g,2,none⟩=some (.map (some bb)):=fun ob=>(((Below.refl w4.heap.size w4).drew.alloc Lr ob).cell (p:=⟨g,2,none⟩) (Nat.lt_of_lt_of_le zg H4.o.2.size)).trans k2
 refine wp_region_noPanic ?_
 refine wp_region_held_drew (S:=fun w'=>w'.cell? ⟨g,2,none⟩=some (.map (some bb))) Kr ?_ (fun aI=>?_)
 ·exact k2
 refine wpAnyH_take (i:=0) (v:=?vh0) rfl Kr Kr Kr Fh (Or.inl ⟨by rfl,?yh0⟩) As ?rh0
 case yh0=>(intro w' ar;(try dsimp only at ar);go_simp;with_reducible rfl)
 try simp only [Sg,Act.put,Ss]
 refine wpAnyH_take (i:=1) (v:=?vh1) rfl Kr Kr Kr Fh (Or.inl ⟨by rfl,?yh1⟩) As ?rh1
 case yh1=>(intro w' ar;(try dsimp only at ar);go_simp;with_reducible rfl)
 try simp only [Sg,Act.put,Ss]
 refine wpAnyH_take (i:=2) (v:=?vh2) rfl Kr Kr Kr Fh (Or.inl ⟨by rfl,?yh2⟩) As ?rh2
 case yh2=>(intro w' ar;(try dsimp only at ar);go_simp;with_reducible rfl)
 try simp only [Sg,Act.put,Ss]
 refine wpAnyH_take (i:=3) (v:=?vh3) rfl Kr Kr Kr Fh (Or.inl ⟨by rfl,?yh3⟩) As ?rh3
 case yh3=>(intro w' ar;(try dsimp only at ar);go_simp;with_reducible rfl)
 try simp only [Sg,Act.put,Ss]
 refine wpAnyH_take (i:=4) (v:=?vh4) rfl Kr Kr Kr Fh (Or.inl ⟨by rfl,?yh4⟩) As ?rh4
 case yh4=>(intro w' ar;(try dsimp only at ar);go_simp;with_reducible rfl)
 try simp only [Sg,Act.put,Ss]
 refine wpAnyH_take (i:=5) (v:=?vh5) rfl Kr Kr Kr Fh (Or.inl ⟨by rfl,?yh5⟩) As ?rh5
 case yh5=>(intro w' ar;(try dsimp only at ar);go_simp;with_reducible rfl)
 try simp only [Sg,Act.put,Ss]
 refine wpAnyH_take (i:=6) (v:=?vh6) rfl Kr Kr Kr Fh (Or.inl ⟨by rfl,?yh6⟩) As ?rh6
 case yh6=>(intro w' ar;(try dsimp only at ar);go_simp;with_reducible rfl)
 try simp only [Sg,Act.put,Ss]
 refine wpAnyH_take (i:=7) (v:=?vh7) rfl Kr Kr Kr Fh (Or.inl ⟨by rfl,?yh7⟩) As ?rh7
 case yh7=>(intro w' ar;(try dsimp only at ar);go_simp;with_reducible rfl)
 try simp only [Sg,Act.put,Ss]
 refine wpAnyH_take (i:=8) (v:=?vh8) rfl Kr Kr Kr Fh (Or.inl ⟨by rfl,?yh8⟩) As ?rh8
 case yh8=>(intro w' ar;(try dsimp only at ar);go_simp;with_reducible rfl)
 try simp only [Sg,Act.put,Ss]
 refine wpAnyH_take (i:=9) (v:=?vh9) rfl Kr Kr Kr Fh (Or.inl ⟨by rfl,?yh9⟩) As ?rh9
 case yh9=>(intro w' ar;(try dsimp only at ar);go_simp;with_reducible rfl)
 try simp only [Sg,Act.put,Ss]
 refine wpAnyH_ready (rs:=[10]) Kr Sm ?_
 refine AllReadyH.cons (o:=_) rfl (fun KR aM=>?ch10) ?nh10
 case nh10=>exact AllReadyH.nil
 go_simp
 refine aM.out _ _ ?_ (fun aI=>?_)
 ·exact m2 _
 clear aM KR
 try simp only [Sg,Act.put,Ss]
 refine wpAnyH_ready (rs:=[11]) Kr Sm ?_
 refine AllReadyH.cons (o:=_) rfl (fun KR aM=>?ch11) ?nh11
 case nh11=>exact AllReadyH.nil
 go_simp
 go_at_call 63
 have lY:(w4.drew.alloc (.cells #[.string ⟨l.toArray⟩,.string ⟨s.toArray⟩] 79)).heap[w4.heap.size]?=some (.cells (avc [(l,s)]).toArray 79 (0,0)):=heap_alloc_new w4.drew _
 have ff:((w4.alloc (.cells #[.string ⟨l.toArray⟩,.string ⟨s.toArray⟩] 79)).drew).heap[w4.heap.size]?=some (.cells (avc [(l,s)]).toArray 79 (0,0)):=heap_alloc_new w4 _
 with_reducible refine (HIi.o _ (by first | exact (H4.o.2.drew.alloc H4.o.2.size _) | exact (H4.o.2.alloc H4.o.2.size _).drew | exact (H4.o.2.alloc H4.o.2.size _)) _ (by first | exact lY | exact ff) H4.o.2.size).mono ?_
 rintro en w6 ⟨nv,rfl,kK,Bu,az⟩
 have fS:Chg (fun k=>some k=(Value.slice va n vc).ownBlock) w w6:=(Chg.ofBelow (by first | exact (H4.o.2.drew.alloc H4.o.2.size _) | exact (H4.o.2.alloc H4.o.2.size _).drew | exact (H4.o.2.alloc H4.o.2.size _))).trans Bu Fi
 have aR:∀ k,nv.ownBlock=some k->(Value.slice va n vc).ownBlock=some k\/w.heap.size<=k:=fun k hk=>by (rcases az with e | ⟨j,e,hj⟩;exact .inl (e ▸ hk);rw [e] at hk;injection hk with hk;subst hk;exact .inr (Nat.le_trans (Below.size (by first | exact (H4.o.2.drew.alloc H4.o.2.size _) | exact (H4.o.2.alloc H4.o.2.size _).drew | exact (H4.o.2.alloc H4.o.2.size _))) hj))
 have tA:=zV wP.o fS (fun h=>(HX.o g h.symm).1 rfl)
 have lp:=zcR HM.o fS (fun h=>(HX.o bb h.symm).2 rfl)
 have i2:=(ze tA).2.2
 obtain ⟨na,nc,rfl⟩:=zh kK
 obtain ⟨N1,iI⟩:=Ex ((K.take i++(l,s) :: K.drop i).length)
 rw [iI] at kK aR ⊢
 have Bm:=Hy iI
 clear iI
 have H6:=Hy (An kK (An fS (An aR (An tA lp))))
 clear kK Bu az fS aR tA lp
 go_wp2_with fail
 refine aM.out _ _ ?_ (fun aI=>?_)
 ·exact i2
 clear aM KR
 try simp only [Sg,Act.put,Ss]
 refine wpAnyH_ready (rs:=[12]) Kr Sm ?_
 refine AllReadyH.cons (o:=_) rfl (fun KR aM=>?ch12) ?nh12
 case nh12=>exact AllReadyH.nil
 refine zfg rfl (.tmp 31) (.tmp 32) (.tmp 39) 60 76 rfl underlying60 bb nb (zS KF F) rfl H6.o.2.2.2.2 Mx p _ rfl rfl hp ?_
 intro w7 n7 eu eY dW
 have aH:g≠bb:=fun e=>by (obtain ⟨es,c,hq⟩:=zaY H6.o.2.2.2.2;have dG:=H6.o.2.2.2.1;rw [e,hq] at dG;cases dG)
 have i7:=(ze (zV H6.o.2.2.2.1 (zbi dW) aH)).2.2
 have eu:zI w7 bb (upF (zS KF F) p (some (.slice na N1 nc))) n7:=eu
 have H7:=Hy (An eu dW)
 clear eu eY dW
 refine aM.out _ _ ?_ (fun aI=>?_)
 ·exact i7
 clear aM KR
 try simp only [Sg,Act.put,Ss]
 refine wpAnyH_done Kr ?_ _
 refine NoPanic.normal ?_
 go_end0
 obtain ⟨hv,hK⟩:=HV.o
 have sk:Chg (fun k=>k=bb\/some k=(F p).ownBlock) w w7:=(H6.o.2.1.mono (fun k _ e=>.inr (by rw [hv,HN.o];exact e))).trans (zbi H7.o.2) (fun k _ e=>.inl e)
 have oJ:w7.ownsRow B 79 2 (.slice na N1 nc) (K.take i++(l,s) :: K.drop i).length (avc (K.take i++(l,s) :: K.drop i)):=zz (Bm.o.symm ▸ H6.o.1) (zbi H7.o.2) (fun k eq e=>by
  have e:k=bb:=e
  subst e
  obtain ⟨es,c,hq⟩:=zaY H6.o.2.2.2.2
  rcases H6.o.1.2 with ⟨e,_⟩ | ⟨g',cap,cur,e,_,cO,_⟩
  ·rw [e] at eq;simp [Value.ownBlock] at eq
  rw [e] at eq
  simp [Value.ownBlock] at eq
  subst eq
  rw [hq] at cO;cases cO)
 have aH:(K.take i++(l,s) :: K.drop i)≠[]:=by simp
 obtain ⟨q1,q2⟩:=ziC (p:=p) (K:=K.take i++(l,s) :: K.drop i) HK.o (zaY HM.o) sk oJ (fun e=>absurd e aH) (fun k eq=>by
  have:=H6.o.2.2.1 k eq
  rw [hv,HN.o];exact this)
 refine ⟨rfl,(fun q=>if q=p then Value.slice na N1 nc else F q),n7,i,?_,?_,?_,?_,?_,sk,q2⟩
 ·rw [hK];exact hi
 ·rw [hK];exact H4.o.1.1
 ·rw [hK];exact H4.o.1.2
 ·rw [hK,ziD,if_neg aH]
  exact H7.o.1
 rw [hK];exact q1
def zmt (B bb:Nat) (F:Bs->Value) (KF:Bs->List Av) (p s:Bs) (w:World) (en:Ending) (w':World):Prop :=
 en=.returned (.tuple #[])/\∃ F' nb',zI w' bb (zS (upK KF p ((KF p).filter fun c => !(c.2==s))) F') nb'/\zb5 w' B F' (upK KF p ((KF p).filter fun c => !(c.2==s))) /\
  Chg (fun k=>k=bb\/some k=(F p).ownBlock) w w'/\∀ q k,(F' q).ownBlock=some k->(F q).ownBlock=some k\/w.heap.size<=k
theorem zt1 (B g bb nb:Nat) (F:Bs->Value) (KF:Bs->List Av) (s p:Bs) (ok:Bool) (w:World) (hg:KdG w g bb) (hm:zI w bb (zS KF F) nb) (hk:zb5 w B F KF) (mM:nb<=1000000) (dN:zw s=(p,ok)) (aF:(KF p).length<=1000000) (hp:p.length<=140737488355328) (he:zD w) :
  Calls prog 43 #[.pointer (some ⟨g,0,none⟩),.string ⟨s.toArray⟩] w (zmt B bb F KF p s w):=by
 obtain ⟨sv,eb,hg⟩:=hg
 have zg:=zi hg
 have zbb:=zaS hm
 obtain ⟨W0,aN⟩:=Ex (w.alloc (.cells #[.string ⟨s.toArray⟩] 9))
 have aE:=Nb aN
 have bB:=Nw aN
 have zx:w.heap.size<W0.heap.size:=zi bB
 have oK:=Hy (show Calls prog 38 #[.string ⟨s.toArray⟩] W0 (zdG (p,ok) W0) from dN ▸ zpn s W0 (zax he aE))
 have d0:=zq bB 0 _ rfl
 obtain ⟨K,hK⟩:=Ex (KF p)
 have aA:=(hk p).2.1
 have fR:=(hk p).1
 rw [hK] at aA aF fR
 obtain ⟨va,vc,hv⟩:=zh aA
 obtain ⟨n,hn⟩:=Ex K.length
 have jK:∀ w',Below w.heap.size w w'->(Instr.lookup 60 (.map (some bb)) (.string ⟨p.toArray⟩) false).run prog w'=.ok (.slice va n vc) w':=fun w' hb=>by
  exact zmk
 have wO:=Hy jK
 have hX:∀ k,(Value.slice va n vc).ownBlock=some k->k≠g/\k≠bb/\k<w.heap.size:=fun k uo=>by
  have eq:(F p).ownBlock=some k:=by rw [hv,hn];exact uo
  have bh:=(aA.lt k eq).2
  rcases aA.2 with ⟨e,_⟩ | ⟨g',cap,cur,e,_,cO,_⟩
  ·rw [e] at eq;simp [Value.ownBlock] at eq
  rw [e] at eq
  simp [Value.ownBlock] at eq
  subst eq
  refine ⟨fun e2=>?_,fun e2=>?_,bh⟩
  ·exact zmn
  obtain ⟨es,c,hq⟩:=zaY hm
  rw [e2,hq] at cO;cases cO
 have HX:=Hy hX
 have BF:=Hy (fun w' (hb:Below w.heap.size w w') (hc:w'.cell? ⟨w.heap.size,0,none⟩=some (.string ⟨s.toArray⟩)) (hz:w.heap.size<w'.heap.size) =>
  ztS (fun c=>c.2==s) K K.length B (.slice va K.length vc) w' (.pointer (some ⟨w.heap.size,0,none⟩)) (zu (hv ▸ aA) hb)
   (fun W t m wM=>ztZ t m s w.heap.size W (by
    have aH:¬ some w.heap.size=(Value.slice va K.length vc).ownBlock:=fun e=>by
     have:=(hX w.heap.size (by rw [<- hn];exact e.symm)).2.2
     omega
    have:=wM.block w.heap.size hz aH
    unfold World.cell? at hc ⊢
    simp only [this]
    exact hc) (Nat.lt_of_lt_of_le hz wM.size)) aF)
 rw [hn] at BF
 have HK:=Hy hk
 have HM:=Hy hm
 have HN:=Hy hn
 have wP:=Hy hg
 have HV:=Hy (An hv hK)
 have gm:=Hy (An aE (An bB zx))
 have gD:=Hy aN
 clear hk hm aA fR jK hv he dN hg hn aF hK hX aE bB aN
 go_enter func43,ntmps43
 go_wp2_with fail
 rw [gD.o]
 go_wp2_with fail
 refine oK.o.mono ?_
 rintro e w2 ⟨rfl,ak⟩
 have oL:=gm.o.1.trans (ak.mono gm.o.1.size)
 have uq:=wO.o w2 oL
 have k2:=(ze (zj wP.o oL zg)).2.2
 have HDw:=Hy (BF.o w2 oL (zq (zj gm.o.2.1 ak zx) 0 _ rfl) (Nat.lt_of_lt_of_le zx ak.size))
 have bw:=Hy oL
 clear ak oL d0
 go_wp2_with fail
 refine HDw.o.mono ?_
 rintro e w4 ⟨v,rfl,BG,p8,bf⟩
 have kL:Chg (fun k=>some k=(Value.slice va n vc).ownBlock) w w4:=(Chg.ofBelow bw.o).trans p8 Fi
 have wQ:=zV wP.o kL (fun h=>(HX.o g h.symm).1 rfl)
 have ur:=zcR HM.o kL (fun h=>(HX.o bb h.symm).2.1 rfl)
 have k2:=(ze wQ).2.2
 obtain ⟨K',BH⟩:=Ex (K.filter fun c => !(c.2==s))
 rw [BH] at BG
 obtain ⟨na,nc,rfl⟩:=zh BG
 obtain ⟨n',G7⟩:=Ex K'.length
 rw [G7] at BG bf ⊢
 have H4:=Hy (An BG (An kL (An bf (An wQ (An ur (An BH G7))))))
 clear BG p8 bf kL wQ ur BH G7 uq
 by_cases h0:n'=0
 ·subst h0
  go_wp2_with (at_delete;refine zmd rfl (.tmp 26) (.tmp 27) 60 76 rfl underlying60 bb nb (zS KF F) rfl H4.o.2.2.2.2.1 p rfl hp ?_)
  intro w7 n7 eu eY dW
  have H7:=Hy (An eu dW)
  clear eu eY dW
  go_wp2
  go_end0
  obtain ⟨hv,hK⟩:=HV.o
  have oM:K'=[]:=List.eq_nil_of_length_eq_zero H4.o.2.2.2.2.2.2
  have sk:Chg (fun k=>k=bb\/some k=(F p).ownBlock) w w7:=(H4.o.2.1.mono (fun k _ e=>.inr (by rw [hv,HN.o];exact e))).trans (zbi H7.o.2) (fun k _ e=>.inl e)
  obtain ⟨q1,q2⟩:=ziC (p:=p) (K:=[]) (v:=.slice none 0 0) HK.o (zaY HM.o) sk (World.ownsRow_nil _ _ _ _) (fun _=>rfl) (fun k eq=>by simp [Value.ownBlock] at eq)
  refine ⟨rfl,(fun q=>if q=p then Value.slice none 0 0 else F q),n7,?_,?_,sk,q2⟩
  ·rw [hK,H4.o.2.2.2.2.2.1,oM,ziD,if_pos rfl]
   exact H7.o.1
  rw [hK,H4.o.2.2.2.2.2.1,oM];exact q1
 have hnz:((n':Int)==0)=false:=by rw [beq_eq_false_iff_ne];omega
 go_wp2_with (at_mapUpdate;refine ztq rfl (.tmp 31) (.tmp 32) (.tmp 33) 60 76 rfl underlying60 bb nb (zS KF F) rfl H4.o.2.2.2.2.1 Mx p _ rfl rfl hp ?_)
 intro w7 n7 eu eY dW
 have eu:zI w7 bb (upF (zS KF F) p (some (.slice na n' nc))) n7:=eu
 have H7:=Hy (An eu dW)
 clear eu eY dW
 go_wp2
 go_end0
 obtain ⟨hv,hK⟩:=HV.o
 have oM:K'≠[]:=fun e=>h0 (by rw [<- H4.o.2.2.2.2.2.2,e];rfl)
 have sk:Chg (fun k=>k=bb\/some k=(F p).ownBlock) w w7:=(H4.o.2.1.mono (fun k _ e=>.inr (by rw [hv,HN.o];exact e))).trans (zbi H7.o.2) (fun k _ e=>.inl e)
 have oJ:w7.ownsRow B 79 2 (.slice na n' nc) K'.length (avc K'):=zz (H4.o.2.2.2.2.2.2.symm ▸ H4.o.1) (zbi H7.o.2) (fun k eq e=>by
  have e:k=bb:=e
  exact (HX.o k (H4.o.2.2.1 ▸ eq)).2.1 e)
 obtain ⟨q1,q2⟩:=ziC (p:=p) (K:=K') (v:=.slice na n' nc) HK.o (zaY HM.o) sk oJ (fun e=>absurd e oM) (fun k eq=>by
  left;rw [hv,HN.o];exact H4.o.2.2.1 ▸ eq)
 refine ⟨rfl,(fun q=>if q=p then Value.slice na n' nc else F q),n7,?_,?_,sk,q2⟩
 ·rw [hK,H4.o.2.2.2.2.2.1,ziD,if_neg oM]
  exact H7.o.1
 rw [hK,H4.o.2.2.2.2.2.1];exact q1
end Go.Proofs.YtijglbolppkefaaGreatDoor

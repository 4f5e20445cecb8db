/- DitBack: an entry put and taken. -/
import Derived.Test.YtijglbolppkefaaGreatDoorDpQ
set_option linter.unusedVariables false
set_option linter.unusedSimpArgs false
set_option maxHeartbeats 25600000
set_option maxRecDepth 100000
namespace Go.Proofs.YtijglbolppkefaaGreatDoor
open Go.Proofs.Tryz
open Go Go.RowKit Go.Proofs.BerK Go.Proofs.MemK Go.Proofs.UtfK Go.Proofs.RegK Go.Maps Go.WideMaps
variable {w w0 w1 : World} {g sb : Nat} {S : Nat -> Prop} {LA M : List Ent} {l : Nat -> Bool}
theorem Ae {p:Prop} (h:p:=by exact fun e=>absurd e (by decide)):p:=h
theorem zkU {p:Prop} (h:p:=by
 go_wp2
 exact ⟨⟨i+1,S1,M,fl,k,B,by omega,by go_num,ez.o.1,HS.o.2.1,ez.o.2.1,ez.o.2.2.1,ez.o.2.2.2,HS.o.2.2.2.2.2⟩,by simp [intOf];omega⟩):p:=h
theorem zrN {L:List Ent} (hT:TrL L) {e:Ent} (h:zP L e=0):zaI (zX L e) e.1=0/\zaD (zX L e) e.1=L/\lkE (zX L e) e.1=some (clE e)/\(zX L e).length=L.length+1:=by
 obtain ⟨a1,a2,a3,a4⟩:=ziT h
 have hL:zX L e=zF (clE e) L:=by unfold zX;rw [if_pos h]
 rw [hL]
 have cZ:lkE (zF (clE e) L) e.1=some (clE e):=by
  rw [zm1 hT.up hT.nm (e:=clE e) a1];exact if_pos rfl
 have Au:zt (zF (clE e) L) e.1=true:=by rw [<- ziQ,cZ];rfl
 have cX:zk L e.1=[]:=by
  refine List.eq_nil_iff_forall_not_mem.2 fun c hc=>?_
  obtain ⟨x,hx,rfl,hp⟩:=zdU hc
  rcases hT.above x hx with q | ⟨y,hy,q⟩
  ·rw [hp] at q
   exact zmN (q ▸ a1)
  rw [hp] at q
  exact zda a2 y hy q
 have Gh:zw e.1≠(e.1,true):=fun hp=>by
  obtain ⟨p,l,h1,_,h3,_⟩:=zcA a1
  rw [hp] at h1
  obtain ⟨rfl,_⟩:=Prod.mk.inj h1
  have:=congrArg List.length h3
  simp at this
 have hk:zk (zF (clE e) L) e.1=[]:=by
  rw [zmY (e:=clE e) hT (zda a2) (p:=e.1) Gh];exact cX
 have wl:zac (zF (clE e) L) e.1=L:=by
  obtain ⟨L1,L2,q1,q2,_⟩:=zdT (clE e) L (zda a2) hT.up
  rw [q2]
  unfold zac
  rw [List.filter_append,List.filter_cons_of_neg (by simp [clE]),<- List.filter_append,<- q1,List.filter_eq_self]
  intro y hy
  exact decide_eq_true (zda a2 y hy)
 refine ⟨zfl Au hk,?_,cZ,?_⟩
 ·unfold zaD;rw [if_pos (zfl Au hk)];exact wl
 rw [zfu hT.up,if_neg (by rw [show zt L (clE e).1=false from a2];decide)]
def bkR (w1:World) (sb g:Nat) (S:Nat->Prop) (M LA:List Ent) (w0:World) (l:Nat->Bool) (w:World):Prop :=
 ∃ S',TIn w1 w sb g S' (if l 14=true then M else LA)/\Chg S w0 w/\(∀ k,S' k->S k\/w0.heap.size<=k)/\(l 10=true->l 3=true)/\(l 14=true->l 3=true)/\(l 17=true->l 14=true)
theorem zaw {w':World} (h:bkR w1 sb g S M LA w0 l w) (hb:Below w.heap.size w w') (i:Nat) (hi:i≠14) (lk:i=10->l 3=true) (Gi:i=17->l 14=true):bkR w1 sb g S M LA w0 (fun j=>if i=j then true else l j) w':=by
 obtain ⟨S',a1,a2,a3,b1,b2,b3⟩:=h
 refine ⟨S',by simp only [if_neg hi];exact zJ a1 hb,a2.below (hb.mono a2.size),a3,fun hq=>?_,fun hq=>?_,fun hq=>?_⟩
 ·by_cases e3:i=3
  ·simp [e3]
  simp only [if_neg e3]
  by_cases e:i=10
  ·exact lk e
  simp only [if_neg e] at hq;exact b1 hq
 ·by_cases e3:i=3
  ·simp [e3]
  simp only [if_neg e3]
  simp only [if_neg hi] at hq;exact b2 hq
 simp only [if_neg hi]
 by_cases e:i=17
 ·exact Gi e
 simp only [if_neg e] at hq;exact b3 hq
theorem zrO (h:bkR w1 sb g S M LA w0 l w) (hl:l 14=false) (lk:l 10=true):∃ S1,TIn w1 w sb g S1 LA/\∀ S2 w',TIn w1 w' sb g S2 M->Chg S1 w w'->(∀ k,S2 k->S1 k\/w.heap.size<=k)->bkR w1 sb g S M LA w0 (fun j=>if 14=j then true else l j) w':=by
 obtain ⟨S',a1,a2,a3,b1,b2,b3⟩:=h
 rw [hl,if_neg De] at a1
 refine ⟨S',a1,fun S2 w' c1 c2 c3=>⟨S2,by simpa using c1,a2.trans c2 (fun k hk hS=>?_),fun k hk=>?_,by simpa using b1,by simpa using b1 lk,by simp⟩⟩
 ·rcases a3 k hS with q | q
  ·exact q
  omega
 rcases c3 k hk with q | q
 ·exact a3 k q
 exact .inr (Nat.le_trans a2.size q)
theorem zrP (h:bkR w1 sb g S M LA w0 l w) (hS:∀ k,S k->zbA w0 k) {b:Nat} {cs:Array Value} {t:TypeId} {m:Nat × Nat} (hb:w0.heap[b]?=some (.cells cs t m)) (ht:t≠79):w.heap[b]?=some (.cells cs t m):=by
 obtain ⟨S',a1,a2,a3,_⟩:=h
 refine (a2.block b (zhu hb) (fun hq=>?_)).trans hb
 rcases hS b hq with ⟨es,c,hm⟩ | ⟨cs',m',hm⟩
 ·rw [hb] at hm;cases hm
 rw [hb] at hm
 injection hm with hm
 injection hm with _ h5 _
 exact ht h5
theorem dtback_any (D:List Dd) (v:Value) (dnE:Bs) (AE:List Atr) (ee:Option Addr) (eec:Nat) (w:World) (h:ziB w v D) (K8:zak w (.slice ee AE.length eec) AE) (he:zD w):Calls prog 4 #[v,.agg #[.string ⟨dnE.toArray⟩,.slice ee AE.length eec]] w (BB true w):=by
 obtain ⟨a,ac,rfl,ae⟩:=h
 have HE:=Hy he
 have HC:=Hy ae
 obtain ⟨n,hn⟩:=Ex D.length
 have HN:=Hy hn
 have Gj:=Hy (fun w' (hb:Below w.heap.size w w')=>zcb K8 hb)
 obtain ⟨W0,aN⟩:=Ex (w.alloc (.cells #[.string ⟨dnE.toArray⟩,.slice ee AE.length eec] 39))
 have aE:=Nb aN
 have x0:=Nw aN
 have Ek:=Hy (zkn dnE AE _ W0 (zdA (Gj.o W0 aE)))
 rw [hn]
 obtain ⟨em,dS⟩:=Ex AE.length
 rw [dS] at aN x0 Gj Ek ⊢
 obtain ⟨e0,e1⟩:=zf x0
 have nZ:=Hy (An x0 aE)
 have gD:=Hy aN
 clear ae he hn K8 aE x0 aN dS
 by_cases h16:16<n
 ·have q1:(16:Int)<(n:Int):=by omega
  go_enter func4,ntmps4
  go_wp2_with fail
  try rw [gD.o]
  have qG:=Hy (ze0 W0 (zax HE.o nZ.o.2))
  go_wp2_with fail
  with_reducible refine qG.o.mono ?_
  rintro en w9 ⟨rfl,bv⟩
  have eM:=Hy (nZ.o.2.trans (bv.mono nZ.o.2.size))
  clear bv
  go_wp2
  go_ret
  exact zB rfl eM.o
 have q1:(n:Int)<=16:=by omega
 have q2:¬ (16:Int)<(n:Int):=by omega
 go_enter func4,ntmps4
 go_wp2_with fail
 try rw [gD.o]
 with_reducible refine Ek.o.mono ?_
 rintro en wF ⟨Gk,tV⟩
 have tW:=Hy (An (nZ.o.2.trans (tV.mono nZ.o.2.size)) (Ob nZ.o.1 tV))
 clear tV e0 e1
 rcases Gk with rfl | ⟨rfl,rT⟩
 ·go_wp2_with fail
  have qG:=Hy (ze0 wF (zax HE.o tW.o.1))
  with_reducible refine qG.o.mono ?_
  rintro en w9 ⟨rfl,bv⟩
  have eM:=Hy (tW.o.1.trans (bv.mono tW.o.1.size))
  clear bv
  go_wp2
  go_ret
  exact zB rfl eM.o
 have el:=Hy (zid rT)
 clear rT
 go_wp2_with fail
 with_reducible refine (zkC wF).mono ?_
 rintro en w1 ⟨sb,rfl,bk,n0⟩
 have au:=tW.o.1.trans (n0.mono tW.o.1.size)
 have pT:=Hy (fun w' (hb:Below w1.heap.size w1 w')=>zj (Ob tW.o.2 n0) hb (Nat.lt_of_lt_of_le (zi tW.o.2) n0.size))
 have kv:=Hy (show Wld w1 sb from fun w' hb=>⟨zby bk hb,zax HE.o (au.trans (hb.mono au.size))⟩)
 have cr:=Hy au
 clear bk au n0
 go_wp2_with fail
 with_reducible refine (zgf (some ⟨sb,0,none⟩) w1).mono ?_
 rintro en w2 ⟨g,S0,rfl,lf,hS,hg,ak,_⟩
 have mE:=Hy (show TIn w1 w2 sb g S0 [] from ⟨lf,ak,ziN,by decide⟩)
 clear lf hS hg ak
 go_wp2_with fail
 with_reducible refine (zpr w2).mono ?_
 rintro en w3 ⟨tv,cv,b1,rfl,gy,⟨yL,gY⟩,nF,nG,aK⟩
 obtain ⟨sa,tn,tc,rfl⟩:∃ sa tn tc,tv=.slice sa tn tc:=⟨_,_,_,yL⟩
 obtain ⟨sc',cn,cc,rfl⟩:∃ sa tn tc,cv=.slice sa tn tc:=⟨_,_,_,gY⟩
 obtain ⟨W4,dk⟩:=Ex (w3.alloc (.cells #[.slice sa tn tc,.slice sc' cn cc,.slice none 0 0] 35))
 have bf:=Nb dk
 have x4:=Nw dk
 have nH:=aK.trans (bf.mono aK.size)
 obtain ⟨bT,dL⟩:=Ex w3.heap.size
 rw [dL] at x4
 have nI:w1.heap.size<=bT:=by rw [<- dL];exact Nat.le_trans mE.o.2.1.size aK.size
 have nJ:b1+9<bT:=by rw [<- dL];exact nG
 have yM:∀ k,S0 k->zcs b1 k:=fun k hk=>.inl (Nat.lt_of_lt_of_le (zap mE.o.1 k hk).2.2.1 nF)
 have H4:=Hy (An (zJ mE.o nH) (An x4 (An (gy.below bf) (An yM nI))))
 have kw:=Hy (An dk dL)
 have eS:=Hy nJ
 clear gy nF nG yL gY aK bf x4 nH dL nI dk nJ yM
 go_wp2
 try rw [kw.o.1]
 try rw [kw.o.2]
 go_loopw [7] (fun xv wr=>∃ (i:Nat) (S1:Nat->Prop) (M:List Ent) (fl:Option Addr) (k B:Nat),i<=n/\xv=.int .i64 (i:Nat)/\TIn w1 wr sb g S1 M/\SzL M/\wr.heap[bT]?=some (.cells #[.slice sa tn tc,.slice sc' cn cc,.slice fl M.length k] 35 (0,0))/\zN wr B (.slice fl M.length k) M/\Off (zcs b1) wr (fun w=>zL w (.slice sa tn tc) plT/\zai w (.slice sc' cn cc) plC)/\(∀ k,S1 k->zcs b1 k)) (fun xv _=>n - (intOf xv).toNat)
 case atStart=>exact ⟨0,S0,[],none,0,0,by omega,rfl,H4.o.1,zkV,H4.o.2.1,zov _ _,H4.o.2.2.1,H4.o.2.2.2.1⟩
 case round =>
  obtain ⟨i,S1,M,fl,k,B,hi,rfl,ht,aW,y6,hE,gy,j5⟩:=hrel
  have aq:=cr.o.trans (ht.2.1.mono cr.o.size)
  by_cases aj:i<n
  ·have cW:(i:Int)<(n:Int):=by omega
   have FU:i<D.length:=by rw [HN.o];exact aj
   obtain ⟨ag,ao,av,rfl,j6,fZ,iX,yN,hA⟩:=HC.o i FU
   obtain ⟨⟨kd,dn,A⟩,lR⟩:∃ x,D[i]=x:=⟨_,rfl⟩
   rw [lR] at fZ iX hA
   dsimp only at fZ iX hA
   obtain ⟨ea,ec,rfl⟩:=zdH hA
   have HA:=Hy (show ∀ w',Below w1.heap.size w1 w'->zak w' (.slice ea A.length ec) A from fun w' hb=>zcb hA (cr.o.trans (hb.mono cr.o.size)))
   have HK:=Hy (fun w' (hb:Below w.heap.size w w')=>An ((hb.cell (p:=⟨ag,_,none⟩) j6).trans fZ) (An ((hb.cell (p:=⟨ag,_,none⟩) j6).trans iX) ((hb.cell (p:=⟨ag,_,none⟩) j6).trans yN)))
   have FW:=Hy (zkn dn A _ wr (zdA (HA.o wr ht.2.1)))
   obtain ⟨c3,c4,c5⟩:=HK.o wr aq
   have HS:=Hy (An ht (An aW (An y6 (An hE (An gy j5)))))
   clear ht aW y6 hE gy j5 aq fZ iX yN hA j6 lR
   go_wp2_with fail
   with_reducible refine FW.o.mono ?_
   rintro en wo ⟨FX,aK⟩
   have ez:=Hy (An (zJ HS.o.1 aK) (An (Ob HS.o.2.2.1 aK) (An (zT HS.o.2.2.2.1 aK) (HS.o.2.2.2.2.1.below aK))))
   have yO:=Hy (cr.o.trans (ez.o.1.2.1.mono cr.o.size))
   clear c3 c4 c5 aK
   obtain ⟨c3,c4,c5⟩:=HK.o wo yO.o
   rcases FX with rfl | ⟨rfl,kx⟩
   ·exact zkU
   by_cases lh:kd=0
   ·subst lh
    have ht:=ez.o.1
    have aW:=HS.o.2.1
    have y6:=ez.o.2.1
    have hE:=ez.o.2.2.1
    have gy:=ez.o.2.2.2
    have j5:=HS.o.2.2.2.2.2
    have aq:=yO.o
    clear c3 c4 c5
    have fm:=zid kx
    obtain ⟨f1,jA,li⟩:=fm
    have yQ:=HA.o
    have yR:=ht.2.2.2
    have iZ:=gy.now
    obtain ⟨DL,gV⟩:=Ex (doL 0 M (dn,A))
    obtain ⟨ml,fb⟩:=Ex DL.length
    have dp:=Hy fb
    have tJ:=Hy (fun wa tK (l:Nat->Bool) (hR:dqR w1 sb g S1 M DL wo.drew 6 l wa) (tL:TIn w1 wa sb g tK M)=>show Calls prog 11 #[.pointer (some ⟨g,0,none⟩),.agg #[.slice sa tn tc,.slice sc' cn cc,.slice fl M.length k],.agg #[.int .i64 0,.string ⟨dn.toArray⟩,.slice ea A.length ec]] wa (zib w1 sb g tK (.slice sa tn tc) (.slice sc' cn cc) DL wa) from by
     have hc:Chg S1 wo wa:=(Chg.ofBelow (Br wo).drew).trans hR.choose_spec.2.1 Fi
     have hO:=(gy.keep (hc.mono (fun k _ hk=>j5 k hk))).now
     have:=zkR w1 sb g tK M B tn tc cn cc sa sc' (.slice fl M.length k) 0 dn A (.slice ea A.length ec) wa kv.o tL (ze1 (fun k hk=>(zap ht.1 k hk).1) hE hc) hO.1 hO.2 yQ jA Om
     rwa [gV] at this)
    have yS:SzL DL:=by rw [<- gV];exact zic ht.2.2.1 aW (e:=(dn,A)) f1 0
    have KP:=Hy (show dn.length<=140737488355328 by omega)
    obtain ⟨en,eL⟩:=Ex A.length
    obtain ⟨lm,cT⟩:=Ex M.length
    rw [eL] at tJ HK
    rw [cT] at tJ y6 hE
    have jB:=Hy (fun l wa (hR:dqR w1 sb g S1 M DL wo.drew 6 l wa)=>show (wa.cell? ⟨bT,0,none⟩=some (.slice sa tn tc)/\wa.cell? ⟨bT,1,none⟩=some (.slice sc' cn cc)/\wa.cell? ⟨bT,2,none⟩=some (.slice fl lm k))/\(wa.cell? ⟨ag,ao+i*3,none⟩=some (.int .i64 0)/\wa.cell? ⟨ag,ao+i*3+1,none⟩=some (.string ⟨dn.toArray⟩)/\wa.cell? ⟨ag,ao+i*3+2,none⟩=some (.slice ea en ec)) from by
     have hS:∀ k,S1 k->zbA wo.drew k:=fun k hk=>(zap (zJ ht (Br wo).drew).1 k hk).1
     refine ⟨ze (zkY hR hS (zj y6 (Br wo).drew (zi y6)) De),?_⟩
     obtain ⟨_,a1,_,_⟩:=hR
     exact HK.o wa (cr.o.trans (a1.2.1.mono cr.o.size)))
    have H:=Hy (An hE (An y6 (An gy (An j5 (An yS H4.o.2.2.2.2)))))
    have nK:=Hy ht
    obtain ⟨c3,c4,c5⟩:=HK.o wo aq
    clear kx f1 jA li yQ yR iZ gV fb yS eL cT ht aW y6 hE gy j5 aq
    go_wp2_with fail
    refine wp_region_noPanic ?_
    refine wp_region_held_drew (S:=fun _=>True) Kr trivial (fun _=>?_)
    refine zd2 (f:=9) (A:=fun j=>decide (j<11)) (D:=[48,49,50,51,52,53,54,47,55,56,8]) (G:=exG [6,7,8,10] (dqP (.slice sa tn tc) (.slice sc' cn cc) ml DL wo.drew.heap.size) [.pointer (some ⟨g,0,none⟩),.agg #[.slice sa tn tc,.slice sc' cn cc,.slice fl lm k],.slice (some ⟨ag,ao,none⟩) n ac,.int .i64 (i:Nat),.pointer (some ⟨ag,ao+i*3,none⟩),.agg #[.int .i64 0,.string ⟨dn.toArray⟩,.slice ea en ec],undef,undef,undef,.bool true,undef]) (LIT:=#[true,true,true,true,true,true,true,true,true,true,true,false,false]) (r:=2) (R:=dqR w1 sb g S1 M DL wo.drew 6) (T:=dqT) ?R0 (fun _=>zaR (Br _)) Kr Kr (fun _=>by kernel_rfl) (fun _=>rfl) Kr (fun _=>by kernel_rfl) (fun _=>by kernel_rfl) Kr (fun j _ v w w' _ h ht=>ze8 (T:=dqT) (zk0 _ _ _ _ _) j v w w' h ht) (fun _ _ _ _ _ h=>h) ?op ?yf (fun l w h=>zaQ h (Br _) 9 De) ?rest
    case R0=>exact ⟨S1,by rw [if_neg De];exact zJ nK.o (Br wo).drew,Chg.refl _ _,fun _ h=>.inl h⟩
    case op =>
     intro i' cG hA l a wa k8 hR aC ah _
     have dr:i'<11:=by simpa using hA
     have aD:=jB.o l wa hR
     rcases (show i'=0\/i'=1\/i'=2\/i'=3\/i'=4\/i'=5\/i'=6\/i'=7\/i'=8\/i'=9\/i'=10 by omega) with rfl | rfl | rfl | rfl | rfl | rfl | rfl | rfl | rfl | rfl | rfl
     ·have e8:a.eval (.tmp 5)=.pointer (some ⟨g,0,none⟩):=aC 5 rfl
      have gX:=Gd e8
      refine ⟨rfl,fun K hK=>?_⟩
      simp only [Sg] at hK ⊢
      go_simp
      exact hK _ _ rfl (zaR (Br _)) (zaQ hR (Br _) 0 De)
     ·have fz:a.eval (.tmp 6)=.pointer (some ⟨bT,0,none⟩):=aC 6 rfl
      have kp:=Gd fz
      obtain ⟨⟨c0,c1,c2⟩,⟨c3,c4,c5⟩⟩:=aD
      refine ⟨rfl,fun K hK=>?_⟩
      simp only [Sg] at hK ⊢
      go_simp
      exact hK _ _ rfl (zaR (Br _)) (zaQ hR (Br _) 1 De)
     ·have ip:a.eval (.tmp 0)=.slice (some ⟨ag,ao,none⟩) n ac:=aC 0 rfl
      have m7:=Gd ip
      refine ⟨rfl,fun K hK=>?_⟩
      simp only [Sg] at hK ⊢
      go_simp
      exact hK _ _ rfl (zaR (Br _)) (zaQ hR (Br _) 2 De)
     ·have kn:a.eval (.tmp 7)=.int .i64 (i:Nat):=aC 7 rfl
      have qC:=Gd kn
      refine ⟨rfl,fun K hK=>?_⟩
      simp only [Sg] at hK ⊢
      go_simp
      exact hK _ _ rfl (zaR (Br _)) (zaQ hR (Br _) 3 De)
     ·have Gl:a.eval (.tmp 50)=.slice (some ⟨ag,ao,none⟩) n ac:=ah 2 50 De Kr rfl
      have K9:=Gd Gl
      have Gm:a.eval (.tmp 51)=.int .i64 (i:Nat):=ah 3 51 De Kr rfl
      have La:=Gd Gm
      refine ⟨rfl,fun K hK=>?_⟩
      simp only [Sg] at hK ⊢
      go_simp
      exact hK _ _ rfl (zaR (Br _)) (zaQ hR (Br _) 4 De)
     ·have tQ:a.eval (.tmp 52)=.pointer (some ⟨ag,ao+i*3,none⟩):=ah 4 52 De Kr rfl
      have yY:=Gd tQ
      obtain ⟨⟨c0,c1,c2⟩,⟨c3,c4,c5⟩⟩:=aD
      refine ⟨rfl,fun K hK=>?_⟩
      simp only [Sg] at hK ⊢
      go_simp
      exact hK _ _ rfl (zaR (Br _)) (zaQ hR (Br _) 5 De)
     ·have ku:a.eval (.tmp 48)=.pointer (some ⟨g,0,none⟩):=ah 0 48 De Kr rfl
      have nn:=Gd ku
      have tD:a.eval (.tmp 49)=.agg #[.slice sa tn tc,.slice sc' cn cc,.slice fl lm k]:=ah 1 49 De Kr rfl
      have yz:=Gd tD
      have tR:a.eval (.tmp 53)=.agg #[.int .i64 0,.string ⟨dn.toArray⟩,.slice ea en ec]:=ah 5 53 De Kr rfl
      have yZ:=Gd tR
      obtain ⟨S1,pS,rQ⟩:=zkX hR k8
      have HC:=Hy (tJ.o wa S1 l hR pS)
      have eS:=Hy pS
      clear pS
      refine ⟨rfl,fun K hK=>?_⟩
      simp only [Sg] at hK ⊢
      go_simp
      with_reducible refine HC.o.mono ?_
      rintro en w6 ⟨B6,Kp,S2,rfl,jn,lQ,bj,j3⟩
      obtain ⟨qa,qk,rfl⟩:=za8 jn
      rw [dp.o] at jn ⊢
      have HZ:=Hy (An (rQ S2 w6 lQ bj j3) (An jn (zkZ eS.o bj)))
      clear lQ bj j3 rQ jn
      go_simp
      exact hK _ _ ⟨_,_,_,rfl,HZ.o.2.1⟩ HZ.o.2.2 HZ.o.1
     ·obtain ⟨Bq,qa,qk,e,dg⟩:=ah 6 54 De Kr rfl
      have gC:a.eval (.tmp 54)=_:=e
      have eT:=Gd gC
      have HZ:=Hy dg
      clear dg
      refine ⟨rfl,fun K hK=>?_⟩
      simp only [Sg] at hK ⊢
      go_simp
      exact hK _ _ ⟨Bq,qa,qk,rfl,HZ.o⟩ (zaR (Br _)) (zaQ hR (Br _) 7 De)
     ·obtain ⟨Bq,qa,qk,e,dg⟩:=ah 7 47 De Kr rfl
      have fk:a.eval (.tmp 47)=_:=e
      have iu:=Gd fk
      have HZ:=Hy dg
      clear dg
      refine ⟨rfl,fun K hK=>?_⟩
      simp only [Sg] at hK ⊢
      go_simp
      exact hK _ _ ⟨Bq,qa,qk,rfl,HZ.o⟩ (zaR (Br _)) (zaQ hR (Br _) 8 De)
     ·obtain ⟨Bq,qa,qk,e,dg⟩:=ah 7 47 De Kr rfl
      have fk:a.eval (.tmp 47)=_:=e
      have iu:=Gd fk
      have HZ:=Hy dg
      clear dg
      refine ⟨rfl,fun K hK=>?_⟩
      simp only [Sg] at hK ⊢
      go_simp
      exact hK _ _ rfl (zaR (Br _)) (zaQ hR (Br _) 9 De)
     have aW:=hR
     obtain ⟨_,_,nM,_⟩:=aW
     have aW:=nM.size
     clear nM
     refine ⟨rfl,fun K hK=>?_⟩
     simp only [Sg] at hK ⊢
     go_simp
     exact hK _ _ ⟨_,rfl,heap_alloc_new wa _,aW⟩ (zaR ((Br wa).alloc Lr _)) (zaQ hR ((Br wa).alloc Lr _) 10 De)
    case yf =>
     intro hf a2 wa ah
     obtain ⟨Bq,qa,qk,e,dg⟩:=ah 7 47 De Kr rfl
     have fk:a2.eval (.tmp 47)=_:=e
     have iu:=Gd fk
     clear dg
     refine ⟨.bool true,.inl ⟨rfl,fun w' _=>?_⟩,rfl⟩
     simp only [Sg]
     go_simp
    case rest =>
     intro fuel a2 wa hR ha hG
     have rR:=hG 8 55 De rfl rfl
     have nN:a2.tmps.getD 56 undef=.bool true:=hG 9 56 De rfl rfl
     have gbx:=hG 10 8 De rfl rfl
     obtain ⟨Bq,qa,qk,bB,dg⟩:=rR
     obtain ⟨bb,mF,dM,bp⟩:=gbx
     obtain ⟨FK,gw⟩:=Ex (a2.tmps.getD 48 undef)
     obtain ⟨x49,ns⟩:=Ex (a2.tmps.getD 49 undef)
     obtain ⟨x50,Aw⟩:=Ex (a2.tmps.getD 50 undef)
     obtain ⟨x51,Ay⟩:=Ex (a2.tmps.getD 51 undef)
     obtain ⟨x52,nQ⟩:=Ex (a2.tmps.getD 52 undef)
     obtain ⟨x53,nR⟩:=Ex (a2.tmps.getD 53 undef)
     obtain ⟨x54,nS⟩:=Ex (a2.tmps.getD 54 undef)
     obtain ⟨Ej,eP⟩:=Ex (a2.tmps.getD 47 undef)
     simp only [List.foldl_cons,List.foldl_nil,bB,nN,mF,gw,ns,Aw,Ay,nQ,nR,nS,eP,Act.put,Ss] at ha
     clear bB nN mF gw ns Aw Ay nQ nR nS eP hG
     subst ha
     obtain ⟨q0,q1,q2⟩:=ze dM
     have u0:=zc dM 0
     have u1:=zc dM 1
     have u2:=zc dM 2
     refine wpAnyH_ready (rs:=[11]) Kr Sm ?_
     refine AllReadyH.cons (o:=_) rfl (fun KR aM=>?c11) AllReadyH.nil
     go_simp
     refine aM.out _ _ trivial (fun _=>?_)
     clear aM KR
     try simp only [Sg,Act.put,Ss]
     refine wpAnyH_ready (rs:=[12]) Kr Sm ?_
     refine AllReadyH.cons (o:=_) rfl (fun KR aM=>?c12) AllReadyH.nil
     go_simp
     refine aM.out _ _ trivial (fun _=>?_)
     clear aM KR
     try simp only [Sg,Act.put,Ss]
     refine wpAnyH_done Kr ?_ _
     refine NoPanic.normal ?_
     obtain ⟨S2,tM,eE,yV⟩:=hR
     rw [if_pos Dk] at tM
     have eE:Chg S1 wo wa:=(Chg.ofBelow (Br wo).drew).trans eE Fi
     have nO:w1.heap.size<=bb:=Nat.le_trans nK.o.2.1.size (by exact bp)
     have tN:=zfQ tM dM nO (.slice sa tn tc) (.slice sc' cn cc) (.slice qa ml qk)
     have tO:=zb1 dg dM (.slice sa tn tc) (.slice sc' cn cc) (.slice qa ml qk)
     have xB:=zbd dM (.slice sa tn tc) (.slice sc' cn cc) (.slice qa ml qk)
     have i5:=zea wa bb (.slice sa tn tc) (.slice sc' cn cc) (.slice qa ml qk)
     have yX:=zd9 nK.o eE H.o.2.1 De
     have gz:bT≠bb:=by have:=zi H.o.2.1;have h2:wo.heap.size<=bb:=bp;omega
     have i6:=zV yX i5 (fun e=>gz e)
     obtain ⟨W8,qH⟩:=Ex (((wa.setCell ⟨bb,0,none⟩ (.slice sa tn tc)).setCell ⟨bb,1,none⟩ (.slice sc' cn cc)).setCell ⟨bb,2,none⟩ (.slice qa ml qk))
     rw [qH] at tN tO xB i5 i6 ⊢
     have nt:=zfQ tN i6 H.o.2.2.2.2.2 (.slice sa tn tc) (.slice sc' cn cc) (.slice qa ml qk)
     have pR:=zb1 tO i6 (.slice sa tn tc) (.slice sc' cn cc) (.slice qa ml qk)
     have x9:=zbd i6 (.slice sa tn tc) (.slice sc' cn cc) (.slice qa ml qk)
     have rP:=zea W8 bT (.slice sa tn tc) (.slice sc' cn cc) (.slice qa ml qk)
     have ky:=((H.o.2.2.1.keep (eE.mono (fun k _ hk=>H.o.2.2.2.1 k hk))).keep (i5.mono (fun k _ hk=>by have hk:k=bb:=hk;have h2:wo.heap.size<=bb:=bp;have:=zi H.o.2.1;have:=eS.o;exact .inr Om))).keep (rP.mono (fun k _ hk=>by have hk:k=bT:=hk;have:=eS.o;exact .inr Om))
     have nP:∀ k,S2 k->zcs b1 k:=fun k hk=>by
      rcases yV k hk with h | h
      ·exact H.o.2.2.2.1 k h
      have h:wo.heap.size<=k:=h
      have:=zi H.o.2.1
      have:=eS.o
      exact .inr Om
     obtain ⟨l0,l1,l2⟩:=ze xB
     obtain ⟨m0,m1,m2⟩:=ze i6
     have g0:=zc i6 0
     have g1:=zc i6 1
     have g2:=zc i6 2
     obtain ⟨W9,tP⟩:=Ex (((W8.setCell ⟨bT,0,none⟩ (.slice sa tn tc)).setCell ⟨bT,1,none⟩ (.slice sc' cn cc)).setCell ⟨bT,2,none⟩ (.slice qa ml qk))
     rw [tP] at nt pR x9 ky
     have H9:=Hy (An nt (An pR (An x9 (An ky nP))))
     have FY:=Hy tP
     clear dg dM bp q0 q1 q2 u0 u1 u2 tM eE yV tN tO xB i5 nO yX i6 gz nt pR x9 rP ky nP qH tP
     have HF:=Hy H.o.2.2.2.2.1
     go_wp2
     try rw [FY.o]
     exact ⟨⟨i+1,S2,DL,qa,qk,Bq,by omega,by go_num,H9.o.1,HF.o,by rw [dp.o];exact H9.o.2.2.1,by rw [dp.o];exact H9.o.2.1,H9.o.2.2.2.1,H9.o.2.2.2.2⟩,by simp [intOf];omega⟩
   have z3:(kd==0)=false:=by simpa using lh
   clear kx
   exact zkU
  have cz:i=n:=by omega
  have cW:¬ (i:Int)<(n:Int):=by omega
  have yR:=ht.2.2.2
  obtain ⟨c,hc⟩:=Ex (zP M (dnE,AE))
  obtain ⟨LA,rU⟩:=Ex (zX M (dnE,AE))
  have pU:=Hy (zd8 hc rU kv.o ht (Gj.o wr aq) el.o.2.1 (show dnE.length<=140737488355328 by have:=el.o.2.2;omega))
  have HQ:=Hy (An hc (An rU (An ht (An aW (An j5 aq)))))
  have HM:=Hy (An y6 hE)
  obtain ⟨e0,e1⟩:=zf (pT.o wr ht.2.1)
  clear ht aW y6 hE gy j5 aq cz hc rU
  go_wp2_with fail
  with_reducible refine pU.o.mono ?_
  rintro en w5 ⟨rfl,S2,tX,bj,j3⟩
  have y5:=zd9 HQ.o.2.2.1 bj HM.o.1 De
  have El:=ze1 (fun k hk=>(zap HQ.o.2.2.1.1 k hk).1) HM.o.2 bj
  have jC:=cr.o.trans (tX.2.1.mono cr.o.size)
  clear e0 e1
  by_cases cF:c=0
  ·have tl:((c:Int) != 0)=false:=by simp [cF]
   have hc:=HQ.o.1
   rw [cF] at hc
   obtain ⟨d1,d2,d3,d4⟩:=zrN HQ.o.2.2.1.2.2.1 hc
   rw [HQ.o.2.1] at d1 d2 d3 d4
   dsimp only at d1 d2 d3
   have lS:SzL LA:=by rw [<- HQ.o.2.1];exact zic (kd:=0) HQ.o.2.2.1.2.2.1 HQ.o.2.2.2.1 (e:=(dnE,AE)) el.o.1
   have Eh:=Hy (show Calls prog 17 #[.pointer (some ⟨g,0,none⟩),.string ⟨dnE.toArray⟩] w5 (zjH (some (clE (dnE,AE))) w5) from by
    have:=zjI _ g _ S2 LA dnE w5 tX.1 (by have:=el.o.2.2;omega) (zf2 lS)
    rwa [d3] at this)
   obtain ⟨e0,e1⟩:=zf (pT.o w5 tX.2.1)
   obtain ⟨XC,Lb⟩:=Ex (clA AE)
   rw [show clE (dnE,AE)=(dnE,XC) by rw [<- Lb];rfl] at Eh
   have H5:=Hy (An tX (An y5 (An El jC)))
   have HD:=Hy (An d1 (An d2 d4))
   clear tX bj j3 y5 El jC hc d1 d2 d3 d4 lS Lb
   go_wp2_with fail
   with_reducible refine Eh.o.mono ?_
   rintro en w5b ⟨_,m8,ai⟩
   obtain ⟨v5,rfl,wj⟩:=m8 _ rfl
   obtain ⟨pa,pc,rfl⟩:=zdi wj
   dsimp only
   obtain ⟨xm,rV⟩:=Ex XC.length
   rw [rV]
   obtain ⟨W6,iY⟩:=Ex (w5b.alloc (.cells #[.string ⟨dnE.toArray⟩,.slice pa xm pc] 39))
   have lO:=Nb iY
   have cR:=ai.trans (lO.mono ai.size)
   have lQ:=zJ H5.o.1 cR
   have y6:=Ob H5.o.2.1 cR
   have jn:=zT H5.o.2.2.1 cR
   obtain ⟨lm,cT⟩:=Ex M.length
   rw [cT] at y6 jn
   have hlmb:lm<=1024:=by rw [<- cT];exact yR
   have Az:LA.length=lm+1:=by rw [<- cT];exact HD.o.2.2
   have iW:=Hy (fun (l:Nat->Bool) wa (hR:bkR w1 sb g S2 M LA W6.drew l wa) (h3:l 3=false)=>show Calls prog 18 #[.pointer (some ⟨g,0,none⟩)] wa (zmi (lm+1) wa) from by
    obtain ⟨Sx,a1,_,_,_,b2,_⟩:=hR
    have h14:l 14=false:=by
     cases h:l 14 with
     | false=>rfl
     | true=>rw [b2 h] at h3;cases h3
    rw [h14,if_neg De] at a1
    have:=zge _ g _ Sx LA wa a1.1
    rwa [Az] at this)
   have HDe:=Hy (fun wa Sx (Em:TIn w1 wa sb g Sx LA)=>zhv HD.o.1 HD.o.2.1 kv.o Em (show dnE.length<=140737488355328 by have:=el.o.2.2;omega))
   have HSa:=Hy (fun (l:Nat->Bool) wa (hR:bkR w1 sb g S2 M LA W6.drew l wa) (Gi:l 17=true)=>show Calls prog 12 #[.pointer (some ⟨g,0,none⟩),.agg #[.slice sa tn tc,.slice sc' cn cc,.slice fl lm k]] wa (BB true wa) from by
    obtain ⟨Sx,a1,a2,_,_,_,b3⟩:=hR
    rw [if_pos (b3 Gi)] at a1
    exact zh2 w1 sb g Sx M B tn tc cn cc sa sc' (.slice fl lm k) wa a1 (ze1 (fun k hk=>(zap (zJ lQ (Br W6).drew).1 k hk).1) (zT jn (Br W6).drew) a2) (zf2 HQ.o.2.2.2.1))
   have HAa:=Hy (fun (l:Nat->Bool) wa (hR:bkR w1 sb g S2 M LA W6.drew l wa)=>show Calls prog 5 #[] wa (BB true wa) from by
    obtain ⟨Sx,a1,_⟩:=hR
    exact ze0 wa (zax HE.o (cr.o.trans (a1.2.1.mono cr.o.size))))
   have jB:=Hy (fun (l:Nat->Bool) wa (hR:bkR w1 sb g S2 M LA W6.drew l wa)=>show (wa.cell? ⟨bT,0,none⟩=some (.slice sa tn tc)/\wa.cell? ⟨bT,1,none⟩=some (.slice sc' cn cc)/\wa.cell? ⟨bT,2,none⟩=some (.slice fl lm k))/\(wa.cell? ⟨w.heap.size,0,none⟩=some (.string ⟨dnE.toArray⟩)/\wa.cell? ⟨w.heap.size,1,none⟩=some (.slice ee em eec)) from by
    refine ⟨ze (zrP hR (fun k hk=>(zap (zJ lQ (Br W6).drew).1 k hk).1) (zj y6 (Br W6).drew (zi y6)) De),?_⟩
    obtain ⟨Sx,a1,_⟩:=hR
    exact zf (pT.o wa a1.2.1))
   have H6:=Hy (An lQ iY)
   have kz:(((lm+1:Nat):Int)==((lm+1:Nat):Int))=true:=by simp
   clear ai wj m8 lO cR lQ y6 jn cT Az iY rV
   go_wp2_with fail
   try rw [H6.o.2]
   refine wp_region_noPanic ?_
   refine wp_region_held_drew (S:=fun _=>True) Kr trivial (fun _=>?_)
   refine zd2 (f:=27) (A:=fun j=>decide (j<25)) (D:=[75,76,77,78,79,80,81,82,83,84,85,86,87,88,89,90,91,92,93,94,95,96,97,98,99]) (G:=exG [] (fun _ _ _=>True) [.bool true,.bool true,.pointer (some ⟨g,0,none⟩),.int .i64 ((lm+1:Nat):Int),.pointer (some ⟨bT,2,none⟩),.slice fl lm k,.int .i64 (lm:Nat),.int .i64 ((lm+1:Nat):Int),.bool true,.bool true,.bool true,.pointer (some ⟨g,0,none⟩),.pointer (some ⟨w.heap.size,0,none⟩),.string ⟨dnE.toArray⟩,.int .i64 ((0:Nat):Int),.bool true,.bool true,.bool true,.pointer (some ⟨g,0,none⟩),.agg #[.slice sa tn tc,.slice sc' cn cc,.slice fl lm k],.bool true,.bool true,.bool true,.bool true,.bool true]) (LIT:=#[true,true,true,true,true,true,true,true,true,true,true,true,true,true,true,true,true,true,true,true,true,true,true,true,true,false]) (r:=1) (R:=bkR w1 sb g S2 M LA W6.drew) (T:=fun _ _=>True) ?R0 (fun _=>trivial) Kr Kr (fun h=>absurd h Dk) (fun h=>absurd h Dk) Kr (fun h=>absurd h Dk) (fun h=>absurd h Dk) Kr (fun _ _ _ _ _ _ h _=>h) (fun _ _ _ _ _ h=>h) ?op (fun h=>absurd h Dk) (fun l w h=>zaw h (Br _) 27 De Ae Ae) ?rest
   case R0=>exact ⟨S2,by rw [if_neg De];exact zJ H6.o.1 (Br W6).drew,Chg.refl _ _,fun _ h=>.inl h,fun h=>(by cases h),fun h=>(by cases h),fun h=>(by cases h)⟩
   case op =>
    intro i' cG hA l a wa k8 hR aC ah li
    have dr:i'<25:=by simpa using hA
    have aD:=jB.o l wa hR
    rcases (show i'=0\/i'=1\/i'=2\/i'=3\/i'=4\/i'=5\/i'=6\/i'=7\/i'=8\/i'=9\/i'=10\/i'=11\/i'=12\/i'=13\/i'=14\/i'=15\/i'=16\/i'=17\/i'=18\/i'=19\/i'=20\/i'=21\/i'=22\/i'=23\/i'=24 by omega) with rfl | rfl | rfl | rfl | rfl | rfl | rfl | rfl | rfl | rfl | rfl | rfl | rfl | rfl | rfl | rfl | rfl | rfl | rfl | rfl | rfl | rfl | rfl | rfl | rfl
    ·have mZ:a.eval (.tmp 11)=.bool true:=aC 11 rfl
     have rO:=Gd mZ
     refine ⟨rfl,fun K hK=>?_⟩
     simp only [Sg] at hK ⊢
     go_simp
     exact hK _ _ rfl trivial (zaw hR (Br _) 0 De Ae Ae)
    ·have tS:a.eval (.tmp 75)=.bool true:=ah 0 75 De Kr rfl
     have y9:=Gd tS
     refine ⟨rfl,fun K hK=>?_⟩
     simp only [Sg] at hK ⊢
     go_simp
     exact hK _ _ rfl trivial (zaw hR (Br _) 1 De Ae Ae)
    ·have e8:a.eval (.tmp 5)=.pointer (some ⟨g,0,none⟩):=aC 5 rfl
     have gX:=Gd e8
     have dR:a.eval (.tmp 76)=.bool true:=ah 1 76 De Kr rfl
     have cN:=Gd dR
     refine ⟨zK rfl rfl rfl cN,fun K hK=>?_⟩
     simp only [Sg] at hK ⊢
     go_simp
     exact hK _ _ rfl trivial (zaw hR (Br _) 2 De Ae Ae)
    ·have tT:a.eval (.tmp 77)=.pointer (some ⟨g,0,none⟩):=ah 2 77 De Kr rfl
     have Aa:=Gd tT
     have dR:a.eval (.tmp 76)=.bool true:=ah 1 76 De Kr rfl
     have cN:=Gd dR
     have cu:=Hy (iW.o l wa hR k8)
     refine ⟨zK rfl rfl rfl cN,fun K hK=>?_⟩
     simp only [Sg] at hK ⊢
     go_simp
     with_reducible refine cu.o.mono ?_
     rintro en w6 ⟨rfl,rfl⟩
     go_simp
     exact hK _ _ rfl trivial (zaw hR (Br _) 3 De Ae Ae)
    ·have fz:a.eval (.tmp 6)=.pointer (some ⟨bT,0,none⟩):=aC 6 rfl
     have kp:=Gd fz
     have dR:a.eval (.tmp 76)=.bool true:=ah 1 76 De Kr rfl
     have cN:=Gd dR
     refine ⟨zK rfl rfl rfl cN,fun K hK=>?_⟩
     simp only [Sg] at hK ⊢
     go_simp
     exact hK _ _ rfl trivial (zaw hR (Br _) 4 De Ae Ae)
    ·have Gn:a.eval (.tmp 79)=.pointer (some ⟨bT,2,none⟩):=ah 4 79 De Kr rfl
     have Lc:=Gd Gn
     have dR:a.eval (.tmp 76)=.bool true:=ah 1 76 De Kr rfl
     have cN:=Gd dR
     obtain ⟨⟨c0,c1,c2⟩,⟨c3,c4⟩⟩:=aD
     refine ⟨zK rfl rfl rfl cN,fun K hK=>?_⟩
     simp only [Sg] at hK ⊢
     go_simp
     exact hK _ _ rfl trivial (zaw hR (Br _) 5 De Ae Ae)
    ·have Gp:a.eval (.tmp 80)=.slice fl lm k:=ah 5 80 De Kr rfl
     have Ld:=Gd Gp
     have dR:a.eval (.tmp 76)=.bool true:=ah 1 76 De Kr rfl
     have cN:=Gd dR
     obtain ⟨⟨c0,c1,c2⟩,⟨c3,c4⟩⟩:=aD
     refine ⟨zK rfl rfl rfl cN,fun K hK=>?_⟩
     simp only [Sg] at hK ⊢
     go_simp
     exact hK _ _ rfl trivial (zaw hR (Br _) 6 De Ae Ae)
    ·have Gq:a.eval (.tmp 81)=.int .i64 (lm:Nat):=ah 6 81 De Kr rfl
     have Le:=Gd Gq
     have dR:a.eval (.tmp 76)=.bool true:=ah 1 76 De Kr rfl
     have cN:=Gd dR
     refine ⟨zK rfl rfl rfl cN,fun K hK=>?_⟩
     simp only [Sg] at hK ⊢
     go_simp
     exact hK _ _ (show _=Value.int .i64 ((lm+1:Nat):Int) from by rw [IntKind.wrap_i64];refine congrArg _ ?_;omega) trivial (zaw hR (Br _) 7 De Ae Ae)
    ·have tU:a.eval (.tmp 78)=.int .i64 ((lm+1:Nat):Int):=ah 3 78 De Kr rfl
     have Ac:=Gd tU
     have Gr:a.eval (.tmp 82)=.int .i64 ((lm+1:Nat):Int):=ah 7 82 De Kr rfl
     have Lf:=Gd Gr
     have dR:a.eval (.tmp 76)=.bool true:=ah 1 76 De Kr rfl
     have cN:=Gd dR
     refine ⟨zK rfl rfl rfl cN,fun K hK=>?_⟩
     simp only [Sg] at hK ⊢
     go_simp
     exact hK _ _ rfl trivial (zaw hR (Br _) 8 De Ae Ae)
    ·have dR:a.eval (.tmp 76)=.bool true:=ah 1 76 De Kr rfl
     have cN:=Gd dR
     have Gs:a.eval (.tmp 83)=.bool true:=ah 8 83 De Kr rfl
     have Lg:=Gd Gs
     refine ⟨rfl,fun K hK=>?_⟩
     simp only [Sg] at hK ⊢
     go_simp
     exact hK _ _ rfl trivial (zaw hR (Br _) 9 De Ae Ae)
    ·have Gt:a.eval (.tmp 84)=.bool true:=ah 9 84 De Kr rfl
     have Lh:=Gd Gt
     refine ⟨rfl,fun K hK=>?_⟩
     simp only [Sg] at hK ⊢
     go_simp
     exact hK _ _ rfl trivial (zaw hR (Br _) 10 De (fun _=>li 3 Kr) Ae)
    ·have e8:a.eval (.tmp 5)=.pointer (some ⟨g,0,none⟩):=aC 5 rfl
     have gX:=Gd e8
     have gE:a.eval (.tmp 85)=.bool true:=ah 10 85 De Kr rfl
     have eA:=Gd gE
     refine ⟨zK rfl rfl rfl eA,fun K hK=>?_⟩
     simp only [Sg] at hK ⊢
     go_simp
     exact hK _ _ rfl trivial (zaw hR (Br _) 11 De Ae Ae)
    ·have gO:a.eval (.tmp 3)=.pointer (some ⟨w.heap.size,0,none⟩):=aC 3 rfl
     have km:=Gd gO
     have gE:a.eval (.tmp 85)=.bool true:=ah 10 85 De Kr rfl
     have eA:=Gd gE
     refine ⟨zK rfl rfl rfl eA,fun K hK=>?_⟩
     simp only [Sg] at hK ⊢
     go_simp
     exact hK _ _ rfl trivial (zaw hR (Br _) 12 De Ae Ae)
    ·have Gu:a.eval (.tmp 87)=.pointer (some ⟨w.heap.size,0,none⟩):=ah 12 87 De Kr rfl
     have Li:=Gd Gu
     have gE:a.eval (.tmp 85)=.bool true:=ah 10 85 De Kr rfl
     have eA:=Gd gE
     obtain ⟨⟨c0,c1,c2⟩,⟨c3,c4⟩⟩:=aD
     refine ⟨zK rfl rfl rfl eA,fun K hK=>?_⟩
     simp only [Sg] at hK ⊢
     go_simp
     exact hK _ _ rfl trivial (zaw hR (Br _) 13 De Ae Ae)
    ·have Gv:a.eval (.tmp 86)=.pointer (some ⟨g,0,none⟩):=ah 11 86 De Kr rfl
     have Lj:=Gd Gv
     have Gw:a.eval (.tmp 88)=.string ⟨dnE.toArray⟩:=ah 13 88 De Kr rfl
     have Lk:=Gd Gw
     have gE:a.eval (.tmp 85)=.bool true:=ah 10 85 De Kr rfl
     have eA:=Gd gE
     obtain ⟨Sx,Em,Ll⟩:=zrO hR k8 (li 10 Kr)
     have cu:=Hy (HDe.o wa Sx Em)
     clear Em
     refine ⟨zK rfl rfl rfl eA,fun K hK=>?_⟩
     simp only [Sg] at hK ⊢
     go_simp
     with_reducible refine cu.o.mono ?_
     rintro en w6 ⟨rfl,Sy,dA,Lm,Ln⟩
     have HZ:=Hy (Ll Sy w6 dA Lm Ln)
     clear dA Lm Ln Ll
     go_simp
     exact hK _ _ rfl trivial HZ.o
    ·have Gx:a.eval (.tmp 89)=.int .i64 ((0:Nat):Int):=ah 14 89 De Kr rfl
     have Lo:=Gd Gx
     have gE:a.eval (.tmp 85)=.bool true:=ah 10 85 De Kr rfl
     have eA:=Gd gE
     refine ⟨zK rfl rfl rfl eA,fun K hK=>?_⟩
     simp only [Sg] at hK ⊢
     go_simp
     exact hK _ _ rfl trivial (zaw hR (Br _) 15 De Ae Ae)
    ·have gE:a.eval (.tmp 85)=.bool true:=ah 10 85 De Kr rfl
     have eA:=Gd gE
     have Gy:a.eval (.tmp 90)=.bool true:=ah 15 90 De Kr rfl
     have Lp:=Gd Gy
     refine ⟨rfl,fun K hK=>?_⟩
     simp only [Sg] at hK ⊢
     go_simp
     exact hK _ _ rfl trivial (zaw hR (Br _) 16 De Ae Ae)
    ·have Gz:a.eval (.tmp 91)=.bool true:=ah 16 91 De Kr rfl
     have Ls:=Gd Gz
     refine ⟨rfl,fun K hK=>?_⟩
     simp only [Sg] at hK ⊢
     go_simp
     exact hK _ _ rfl trivial (zaw hR (Br _) 17 De Ae (fun _=>li 14 Kr))
    ·have e8:a.eval (.tmp 5)=.pointer (some ⟨g,0,none⟩):=aC 5 rfl
     have gX:=Gd e8
     have kA:a.eval (.tmp 92)=.bool true:=ah 17 92 De Kr rfl
     have iw:=Gd kA
     refine ⟨zK rfl rfl rfl iw,fun K hK=>?_⟩
     simp only [Sg] at hK ⊢
     go_simp
     exact hK _ _ rfl trivial (zaw hR (Br _) 18 De Ae Ae)
    ·have fz:a.eval (.tmp 6)=.pointer (some ⟨bT,0,none⟩):=aC 6 rfl
     have kp:=Gd fz
     have kA:a.eval (.tmp 92)=.bool true:=ah 17 92 De Kr rfl
     have iw:=Gd kA
     obtain ⟨⟨c0,c1,c2⟩,⟨c3,c4⟩⟩:=aD
     refine ⟨zK rfl rfl rfl iw,fun K hK=>?_⟩
     simp only [Sg] at hK ⊢
     go_simp
     exact hK _ _ rfl trivial (zaw hR (Br _) 19 De Ae Ae)
    ·have GA:a.eval (.tmp 93)=.pointer (some ⟨g,0,none⟩):=ah 18 93 De Kr rfl
     have Lt:=Gd GA
     have GB:a.eval (.tmp 94)=.agg #[.slice sa tn tc,.slice sc' cn cc,.slice fl lm k]:=ah 19 94 De Kr rfl
     have Lu:=Gd GB
     have kA:a.eval (.tmp 92)=.bool true:=ah 17 92 De Kr rfl
     have iw:=Gd kA
     have cu:=Hy (HSa.o l wa hR (li 17 Kr))
     refine ⟨zK rfl rfl rfl iw,fun K hK=>?_⟩
     simp only [Sg] at hK ⊢
     go_simp
     with_reducible refine cu.o.mono ?_
     rintro en w6 ⟨rfl,az⟩
     have HZ:=Hy (zaw hR az 20 De Ae Ae)
     go_simp
     exact hK _ _ rfl trivial HZ.o
    ·have kA:a.eval (.tmp 92)=.bool true:=ah 17 92 De Kr rfl
     have iw:=Gd kA
     have GC:a.eval (.tmp 95)=.bool true:=ah 20 95 De Kr rfl
     have Lv:=Gd GC
     refine ⟨rfl,fun K hK=>?_⟩
     simp only [Sg] at hK ⊢
     go_simp
     exact hK _ _ rfl trivial (zaw hR (Br _) 21 De Ae Ae)
    ·have GE:a.eval (.tmp 96)=.bool true:=ah 21 96 De Kr rfl
     have Lw:=Gd GE
     refine ⟨rfl,fun K hK=>?_⟩
     simp only [Sg] at hK ⊢
     go_simp
     exact hK _ _ rfl trivial (zaw hR (Br _) 22 De Ae Ae)
    ·have tY:a.eval (.tmp 97)=.bool true:=ah 22 97 De Kr rfl
     have rW:=Gd tY
     have cu:=Hy (HAa.o l wa hR)
     refine ⟨zK rfl rfl rfl rW,fun K hK=>?_⟩
     simp only [Sg] at hK ⊢
     go_simp
     with_reducible refine cu.o.mono ?_
     rintro en w6 ⟨rfl,az⟩
     have HZ:=Hy (zaw hR az 23 De Ae Ae)
     go_simp
     exact hK _ _ rfl trivial HZ.o
    have tY:a.eval (.tmp 97)=.bool true:=ah 22 97 De Kr rfl
    have rW:=Gd tY
    have GG:a.eval (.tmp 98)=.bool true:=ah 23 98 De Kr rfl
    have Lx:=Gd GG
    refine ⟨rfl,fun K hK=>?_⟩
    simp only [Sg] at hK ⊢
    go_simp
    exact hK _ _ rfl trivial (zaw hR (Br _) 24 De Ae Ae)
   case rest =>
    intro fuel a2 wa hR ha hG
    have ge:a2.tmps.getD 99 undef=.bool true:=hG 24 99 De rfl rfl
    obtain ⟨x75,nU⟩:=Ex (a2.tmps.getD 75 undef)
    obtain ⟨x76,nV⟩:=Ex (a2.tmps.getD 76 undef)
    obtain ⟨x77,nW⟩:=Ex (a2.tmps.getD 77 undef)
    obtain ⟨x78,nY⟩:=Ex (a2.tmps.getD 78 undef)
    obtain ⟨x79,AA⟩:=Ex (a2.tmps.getD 79 undef)
    obtain ⟨x80,AB⟩:=Ex (a2.tmps.getD 80 undef)
    obtain ⟨x81,AD⟩:=Ex (a2.tmps.getD 81 undef)
    obtain ⟨x82,AF⟩:=Ex (a2.tmps.getD 82 undef)
    obtain ⟨x83,AG⟩:=Ex (a2.tmps.getD 83 undef)
    obtain ⟨x84,AH⟩:=Ex (a2.tmps.getD 84 undef)
    obtain ⟨x85,AI⟩:=Ex (a2.tmps.getD 85 undef)
    obtain ⟨x86,AJ⟩:=Ex (a2.tmps.getD 86 undef)
    obtain ⟨x87,AK⟩:=Ex (a2.tmps.getD 87 undef)
    obtain ⟨x88,AM⟩:=Ex (a2.tmps.getD 88 undef)
    obtain ⟨x89,AN⟩:=Ex (a2.tmps.getD 89 undef)
    obtain ⟨x90,AO⟩:=Ex (a2.tmps.getD 90 undef)
    obtain ⟨x91,AP⟩:=Ex (a2.tmps.getD 91 undef)
    obtain ⟨x92,AQ⟩:=Ex (a2.tmps.getD 92 undef)
    obtain ⟨x93,AR⟩:=Ex (a2.tmps.getD 93 undef)
    obtain ⟨x94,AS⟩:=Ex (a2.tmps.getD 94 undef)
    obtain ⟨x95,AT⟩:=Ex (a2.tmps.getD 95 undef)
    obtain ⟨x96,AU⟩:=Ex (a2.tmps.getD 96 undef)
    obtain ⟨x97,AV⟩:=Ex (a2.tmps.getD 97 undef)
    obtain ⟨x98,AW⟩:=Ex (a2.tmps.getD 98 undef)
    simp only [List.foldl_cons,List.foldl_nil,ge,nU,nV,nW,nY,AA,AB,AD,AF,AG,AH,AI,AJ,AK,AM,AN,AO,AP,AQ,AR,AS,AT,AU,AV,AW,Act.put,Ss] at ha
    clear ge nU nV nW nY AA AB AD AF AG AH AI AJ AK AM AN AO AP AQ AR AS AT AU AV AW hG
    subst ha
    refine wpAnyH_ready (rs:=[25]) Kr Sm ?_
    refine AllReadyH.cons (o:=_) rfl (fun KR aM=>?c25) AllReadyH.nil
    go_simp
    refine aM.out _ _ trivial (fun _=>?_)
    clear aM KR
    try simp only [Sg,Act.put,Ss]
    refine wpAnyH_done Kr ?_ _
    refine NoPanic.normal ?_
    obtain ⟨Sx,eK,_⟩:=hR
    have n8:=Hy (cr.o.trans (eK.2.1.mono cr.o.size))
    clear eK
    go_wp2
    go_ret
    exact zB rfl n8.o
  have tl:((c:Int) != 0)=true:=by simpa using cF
  have rU:LA=M:=by rw [<- HQ.o.2.1];unfold zX;rw [HQ.o.1,if_neg cF]
  subst rU
  have rS:=Hy (zh2 w1 sb g S2 _ B tn tc cn cc sa sc' _ w5 tX El (zf2 HQ.o.2.2.2.1))
  have H5:=Hy jC
  obtain ⟨c0,c1,c2⟩:=ze y5
  obtain ⟨lm,cT⟩:=Ex LA.length
  rw [cT] at c2 rS
  clear tX bj j3 y5 El jC cT
  go_wp2_with fail
  with_reducible refine rS.o.mono ?_
  rintro en w7 ⟨rfl,aR⟩
  have j7:=Hy (H5.o.trans (aR.mono H5.o.size))
  clear aR c0 c1 c2
  have qG:=Hy (ze0 w7 (zax HE.o j7.o))
  go_wp2_with fail
  with_reducible refine qG.o.mono ?_
  rintro en w9 ⟨rfl,bv⟩
  have eM:=Hy (j7.o.trans (bv.mono j7.o.size))
  clear bv
  go_wp2
  go_ret
  exact zB rfl eM.o
end Go.Proofs.YtijglbolppkefaaGreatDoor

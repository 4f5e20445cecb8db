/- DitPlays: any deeds, one behind. -/
import Derived.Test.YtijglbolppkefaaGreatDoorDpQ
set_option linter.unusedVariables false
set_option linter.unusedSimpArgs false
set_option maxHeartbeats 25600000
set_option maxRecDepth 100000
namespace Go.Proofs.YtijglbolppkefaaGreatDoor
open Go.Proofs.Tryz
open Go Go.RowKit Go.Proofs.BerK Go.Proofs.MemK Go.Proofs.UtfK Go.Proofs.RegK Go.Maps Go.WideMaps
theorem zcg {p:Prop} (h:p:=by
 have dQ:a.eval (.tmp 60)=.bool false:=ah 8 60 De Kr rfl
 have cY:=Gd dQ
 refine ⟨zK rfl rfl rfl cY,fun K hK=>?_⟩
 simp only [Sg] at hK ⊢
 go_simp
 exact hK _ _ rfl (Br _)):p:=h
theorem zch {p:Prop} (h:p:=by
 simp only [Sg] at hK ⊢
 go_simp
 exact hK _ _ rfl (Br _)):p:=h
theorem zkS {p:Prop} (h:p:=by
 refine ⟨zK rfl rfl rfl cY,fun K hK=>?_⟩
 simp only [Sg] at hK ⊢
 go_simp
 with_reducible refine cu.o.mono ?_
 rintro en w6 ⟨nv,rfl,ab,az⟩
 have eK:=zaL ab
 obtain ⟨p1,k1,rfl⟩:=zh ab
 rw [wh.o] at eK ⊢
 have HZ:=Hy eK
 clear ab eK
 go_simp
 exact hK _ _ ⟨_,_,rfl,HZ.o⟩ az):p:=h
theorem zkT {p:Prop} (h:p:=by
 simp only [Sg] at hK ⊢
 go_simp
 with_reducible refine cu.o.mono ?_
 rintro en w6 ⟨rfl,az⟩
 go_simp
 exact hK _ _ rfl az):p:=h
theorem dtplays_any (D:List Dd) (v:Value) (w:World) (h:ziB w v D) (he:zD w):Calls prog 3 #[v] w (BB true w):=by
 obtain ⟨a,ac,rfl,ae⟩:=h
 have HE:=Hy he
 have HC:=Hy ae
 obtain ⟨n,hn⟩:=Ex D.length
 have HN:=Hy hn
 rw [hn]
 clear ae he hn
 by_cases h24:24<n
 ·have q1:(24:Int)<(n:Int):=by omega
  have qG:=Hy (ze0 w HE.o)
  go_enter func3,ntmps3
  go_wp2_with fail
  with_reducible refine qG.o.mono ?_
  rintro en w1 ⟨rfl,hb⟩
  go_wp2
  go_ret
  exact zB rfl hb
 have q1:(n:Int)<=24:=by omega
 have q2:¬ (24:Int)<(n:Int):=by omega
 go_enter func3,ntmps3
 go_wp2_with fail
 with_reducible refine (zkC w).mono ?_
 rintro en w1 ⟨sb,rfl,bk,au⟩
 have kv:=Hy (show Wld w1 sb from fun w' hb=>⟨zby bk hb,zax HE.o (au.trans (hb.mono au.size))⟩)
 have cr:=Hy au
 clear bk au
 go_wp2_with fail
 with_reducible refine (zgf (some ⟨sb,0,none⟩) w1).mono ?_
 rintro en w2 ⟨g0,S0,rfl,lf,hS,hg,ak,_⟩
 have mE:=Hy (show TIn w1 w2 sb g0 S0 [] from ⟨lf,ak,ziN,by decide⟩)
 clear lf hS hg ak
 go_wp2_with fail
 with_reducible refine (zpr w2).mono ?_
 rintro en w3 ⟨tv,cv,b1,rfl,gy,⟨yL,gY⟩,nF,nG,aK⟩
 obtain ⟨sa,tn,tc,rfl⟩:∃ sa tn tc,tv=.slice sa tn tc:=⟨_,_,_,yL⟩
 obtain ⟨sc',cn,cc,rfl⟩:∃ sa tn tc,cv=.slice sa tn tc:=⟨_,_,_,gY⟩
 obtain ⟨W4,dk⟩:=Ex (w3.alloc (.cells #[.slice sa tn tc,.slice sc' cn cc,.slice none 0 0] 35))
 have bf:=Nb dk
 have x4:=Nw dk
 have nH:=aK.trans (bf.mono aK.size)
 obtain ⟨bT,dL⟩:=Ex w3.heap.size
 rw [dL] at x4
 have nI:w1.heap.size<=bT:=by rw [<- dL];exact Nat.le_trans mE.o.2.1.size aK.size
 have nJ:b1+9<bT:=by rw [<- dL];exact nG
 have yM:∀ k,S0 k->zcs b1 k:=fun k hk=>.inl (Nat.lt_of_lt_of_le (zap mE.o.1 k hk).2.2.1 nF)
 have H4:=Hy (An (zJ mE.o nH) (An x4 (An (gy.below bf) (An yM nI))))
 have kw:=Hy (An dk dL)
 have eS:=Hy nJ
 clear gy nF nG yL gY aK bf x4 nH dL nI dk nJ yM
 go_wp2
 try rw [kw.o.1]
 try rw [kw.o.2]
 go_loopw [3,5] (fun tv xv wr=>∃ (i g:Nat) (S1:Nat->Prop) (M:List Ent) (fl:Option Addr) (k B:Nat),i<=n/\tv=.pointer (some ⟨g,0,none⟩)/\xv=.int .i64 (i:Nat)/\TIn w1 wr sb g S1 M/\SzL M/\wr.heap[bT]?=some (.cells #[.slice sa tn tc,.slice sc' cn cc,.slice fl M.length k] 35 (0,0))/\zN wr B (.slice fl M.length k) M/\Off (zcs b1) wr (fun w=>zL w (.slice sa tn tc) plT/\zai w (.slice sc' cn cc) plC)/\(∀ k,S1 k->zcs b1 k)) (fun _ xv _=>n - (intOf xv).toNat)
 case atStart=>exact ⟨0,g0,S0,[],none,0,0,by omega,rfl,rfl,H4.o.1,zkV,H4.o.2.1,zov _ _,H4.o.2.2.1,H4.o.2.2.2.1⟩
 case round =>
  obtain ⟨i,g,S1,M,fl,k,B,hi,rfl,rfl,ht,aW,y6,hE,gy,j5⟩:=hrel
  have aq:=cr.o.trans (ht.2.1.mono cr.o.size)
  by_cases aj:i<n
  ·have cW:(i:Int)<(n:Int):=by omega
   have FU:i<D.length:=by rw [HN.o];exact aj
   obtain ⟨ag,ao,av,rfl,j6,fZ,iX,yN,hA⟩:=HC.o i FU
   obtain ⟨⟨kd,dn,A⟩,lR⟩:∃ x,D[i]=x:=⟨_,rfl⟩
   rw [lR] at fZ iX hA
   dsimp only at fZ iX hA
   obtain ⟨ea,ec,rfl⟩:=zdH hA
   have HA:=Hy (show ∀ w',Below w1.heap.size w1 w'->zak w' (.slice ea A.length ec) A from fun w' hb=>zcb hA (cr.o.trans (hb.mono cr.o.size)))
   have HK:=Hy (fun w' (hb:Below w.heap.size w w')=>An ((hb.cell (p:=⟨ag,_,none⟩) j6).trans fZ) (An ((hb.cell (p:=⟨ag,_,none⟩) j6).trans iX) ((hb.cell (p:=⟨ag,_,none⟩) j6).trans yN)))
   have FW:=Hy (zkn dn A _ wr (zdA (HA.o wr ht.2.1)))
   obtain ⟨c3,c4,c5⟩:=HK.o wr aq
   have HS:=Hy (An ht (An aW (An y6 (An hE (An gy j5)))))
   clear ht aW y6 hE gy j5 aq fZ iX yN hA j6 lR
   go_wp2_with fail
   with_reducible refine FW.o.mono ?_
   rintro en wo ⟨FX,aK⟩
   have ez:=Hy (An (zJ HS.o.1 aK) (An (Ob HS.o.2.2.1 aK) (An (zT HS.o.2.2.2.1 aK) (HS.o.2.2.2.2.1.below aK))))
   have yO:=Hy (cr.o.trans (ez.o.1.2.1.mono cr.o.size))
   clear c3 c4 c5 aK
   obtain ⟨c3,c4,c5⟩:=HK.o wo yO.o
   rcases FX with rfl | ⟨rfl,kx⟩
   ·go_wp2
    exact ⟨⟨i+1,g,S1,M,fl,k,B,by omega,rfl,by go_num,ez.o.1,HS.o.2.1,ez.o.2.1,ez.o.2.2.1,ez.o.2.2.2,HS.o.2.2.2.2.2⟩,by simp [intOf];omega⟩
   by_cases lh:kd=3
   ·subst lh
    clear kx
    have HCy:=Hy (zne _ g (some ⟨sb,0,none⟩) S1 M wo ez.o.1.1 ez.o.1.2.2.1 ez.o.1.2.2.2)
    go_wp2_with fail
    with_reducible refine HCy.o.mono ?_
    rintro en w5 ⟨g2,S2,rfl,yP,j3,cf,ai⟩
    have cS:=Hy (An (show TIn w1 w5 sb g2 S2 M from ⟨zrQ yP ez.o.1.2.1.size,ez.o.1.2.1.trans (ai.mono ez.o.1.2.1.size),ez.o.1.2.2⟩) (An (Ob ez.o.2.1 ai) (An (zT ez.o.2.2.1 ai) (An (ez.o.2.2.2.below ai) (show ∀ k,S2 k->zcs b1 k from fun k hk=>by
     have h1:=j3 k hk
     have:=zi ez.o.2.1
     have:=eS.o
     exact .inr Om)))))
    clear yP j3 cf ai c3 c4 c5
    go_wp2
    exact ⟨⟨i+1,g2,S2,M,fl,k,B,by omega,rfl,by go_num,cS.o.1,HS.o.2.1,cS.o.2.1,cS.o.2.2.1,cS.o.2.2.2.1,cS.o.2.2.2.2⟩,by simp [intOf];omega⟩
   have z3:(kd==3)=false:=by simpa using lh
   have ht:=ez.o.1
   have aW:=HS.o.2.1
   have y6:=ez.o.2.1
   have hE:=ez.o.2.2.1
   have gy:=ez.o.2.2.2
   have j5:=HS.o.2.2.2.2.2
   have aq:=yO.o
   clear c3 c4 c5
   have fm:=zid kx
   obtain ⟨f1,jA,li⟩:=fm
   have yQ:=HA.o
   have yR:=ht.2.2.2
   have iZ:=gy.now
   obtain ⟨DL,gV⟩:=Ex (doL kd M (dn,A))
   obtain ⟨ml,fb⟩:=Ex DL.length
   have dp:=Hy fb
   have tJ:=Hy (fun wa tK (l:Nat->Bool) (hR:dqR w1 sb g S1 M DL wo.drew 6 l wa) (tL:TIn w1 wa sb g tK M)=>show Calls prog 11 #[.pointer (some ⟨g,0,none⟩),.agg #[.slice sa tn tc,.slice sc' cn cc,.slice fl M.length k],.agg #[.int .i64 kd,.string ⟨dn.toArray⟩,.slice ea A.length ec]] wa (zib w1 sb g tK (.slice sa tn tc) (.slice sc' cn cc) DL wa) from by
    have hc:Chg S1 wo wa:=(Chg.ofBelow (Br wo).drew).trans hR.choose_spec.2.1 Fi
    have hO:=(gy.keep (hc.mono (fun k _ hk=>j5 k hk))).now
    have:=zkR w1 sb g tK M B tn tc cn cc sa sc' (.slice fl M.length k) kd dn A (.slice ea A.length ec) wa kv.o tL (ze1 (fun k hk=>(zap ht.1 k hk).1) hE hc) hO.1 hO.2 yQ jA Om
    rwa [gV] at this)
   have yS:SzL DL:=by rw [<- gV];exact zic ht.2.2.1 aW (e:=(dn,A)) f1 kd
   have KP:=Hy (show dn.length<=140737488355328 by omega)
   obtain ⟨en,eL⟩:=Ex A.length
   obtain ⟨lm,cT⟩:=Ex M.length
   rw [eL] at tJ HK
   rw [cT] at tJ y6 hE
   have jB:=Hy (fun l wa (hR:dqR w1 sb g S1 M DL wo.drew 6 l wa)=>show (wa.cell? ⟨bT,0,none⟩=some (.slice sa tn tc)/\wa.cell? ⟨bT,1,none⟩=some (.slice sc' cn cc)/\wa.cell? ⟨bT,2,none⟩=some (.slice fl lm k))/\(wa.cell? ⟨ag,ao+i*3,none⟩=some (.int .i64 kd)/\wa.cell? ⟨ag,ao+i*3+1,none⟩=some (.string ⟨dn.toArray⟩)/\wa.cell? ⟨ag,ao+i*3+2,none⟩=some (.slice ea en ec)) from by
    have hS:∀ k,S1 k->zbA wo.drew k:=fun k hk=>(zap (zJ ht (Br wo).drew).1 k hk).1
    refine ⟨ze (zkY hR hS (zj y6 (Br wo).drew (zi y6)) De),?_⟩
    obtain ⟨_,a1,_,_⟩:=hR
    exact HK.o wa (cr.o.trans (a1.2.1.mono cr.o.size)))
   have H:=Hy (An hE (An y6 (An gy (An j5 (An yS H4.o.2.2.2.2)))))
   have nK:=Hy ht
   obtain ⟨c3,c4,c5⟩:=HK.o wo aq
   clear kx f1 jA li yQ yR iZ gV fb yS eL cT ht aW y6 hE gy j5 aq
   go_wp2_with fail
   refine wp_region_noPanic ?_
   refine wp_region_held_drew (S:=fun _=>True) Kr trivial (fun _=>?_)
   refine zd2 (f:=9) (A:=fun j=>decide (j<11)) (D:=[42,43,44,45,46,47,48,41,49,50,6]) (G:=exG [6,7,8,10] (dqP (.slice sa tn tc) (.slice sc' cn cc) ml DL wo.drew.heap.size) [.pointer (some ⟨g,0,none⟩),.agg #[.slice sa tn tc,.slice sc' cn cc,.slice fl lm k],.slice (some ⟨ag,ao,none⟩) n ac,.int .i64 (i:Nat),.pointer (some ⟨ag,ao+i*3,none⟩),.agg #[.int .i64 kd,.string ⟨dn.toArray⟩,.slice ea en ec],undef,undef,undef,.bool true,undef]) (LIT:=#[true,true,true,true,true,true,true,true,true,true,true,false,false]) (r:=2) (R:=dqR w1 sb g S1 M DL wo.drew 6) (T:=dqT) ?R0 (fun _=>zaR (Br _)) Kr Kr (fun _=>by kernel_rfl) (fun _=>rfl) Kr (fun _=>by kernel_rfl) (fun _=>by kernel_rfl) Kr (fun j _ v w w' _ h ht=>ze8 (T:=dqT) (zk0 _ _ _ _ _) j v w w' h ht) (fun _ _ _ _ _ h=>h) ?op ?yf (fun l w h=>zaQ h (Br _) 9 De) ?rest
   case R0=>exact ⟨S1,by rw [if_neg De];exact zJ nK.o (Br wo).drew,Chg.refl _ _,fun _ h=>.inl h⟩
   case op =>
    intro i' cG hA l a wa k8 hR aC ah _
    have dr:i'<11:=by simpa using hA
    have aD:=jB.o l wa hR
    rcases (show i'=0\/i'=1\/i'=2\/i'=3\/i'=4\/i'=5\/i'=6\/i'=7\/i'=8\/i'=9\/i'=10 by omega) with rfl | rfl | rfl | rfl | rfl | rfl | rfl | rfl | rfl | rfl | rfl
    ·have gO:a.eval (.tmp 3)=.pointer (some ⟨g,0,none⟩):=aC 3 rfl
     have km:=Gd gO
     refine ⟨rfl,fun K hK=>?_⟩
     simp only [Sg] at hK ⊢
     go_simp
     exact hK _ _ rfl (zaR (Br _)) (zaQ hR (Br _) 0 De)
    ·have yT:a.eval (.tmp 4)=.pointer (some ⟨bT,0,none⟩):=aC 4 rfl
     have yU:=Gd yT
     obtain ⟨⟨c0,c1,c2⟩,⟨c3,c4,c5⟩⟩:=aD
     refine ⟨rfl,fun K hK=>?_⟩
     simp only [Sg] at hK ⊢
     go_simp
     exact hK _ _ rfl (zaR (Br _)) (zaQ hR (Br _) 1 De)
    ·have ip:a.eval (.tmp 0)=.slice (some ⟨ag,ao,none⟩) n ac:=aC 0 rfl
     have m7:=Gd ip
     refine ⟨rfl,fun K hK=>?_⟩
     simp only [Sg] at hK ⊢
     go_simp
     exact hK _ _ rfl (zaR (Br _)) (zaQ hR (Br _) 2 De)
    ·have e8:a.eval (.tmp 5)=.int .i64 (i:Nat):=aC 5 rfl
     have gX:=Gd e8
     refine ⟨rfl,fun K hK=>?_⟩
     simp only [Sg] at hK ⊢
     go_simp
     exact hK _ _ rfl (zaR (Br _)) (zaQ hR (Br _) 3 De)
    ·have kq:a.eval (.tmp 44)=.slice (some ⟨ag,ao,none⟩) n ac:=ah 2 44 De Kr rfl
     have nh:=Gd kq
     have kr:a.eval (.tmp 45)=.int .i64 (i:Nat):=ah 3 45 De Kr rfl
     have ni:=Gd kr
     refine ⟨rfl,fun K hK=>?_⟩
     simp only [Sg] at hK ⊢
     go_simp
     exact hK _ _ rfl (zaR (Br _)) (zaQ hR (Br _) 4 De)
    ·have ks:a.eval (.tmp 46)=.pointer (some ⟨ag,ao+i*3,none⟩):=ah 4 46 De Kr rfl
     have nj:=Gd ks
     obtain ⟨⟨c0,c1,c2⟩,⟨c3,c4,c5⟩⟩:=aD
     refine ⟨rfl,fun K hK=>?_⟩
     simp only [Sg] at hK ⊢
     go_simp
     exact hK _ _ rfl (zaR (Br _)) (zaQ hR (Br _) 5 De)
    ·have kt:a.eval (.tmp 42)=.pointer (some ⟨g,0,none⟩):=ah 0 42 De Kr rfl
     have nk:=Gd kt
     have ko:a.eval (.tmp 43)=.agg #[.slice sa tn tc,.slice sc' cn cc,.slice fl lm k]:=ah 1 43 De Kr rfl
     have m9:=Gd ko
     have fk:a.eval (.tmp 47)=.agg #[.int .i64 kd,.string ⟨dn.toArray⟩,.slice ea en ec]:=ah 5 47 De Kr rfl
     have iu:=Gd fk
     obtain ⟨S1,pS,rQ⟩:=zkX hR k8
     have HC:=Hy (tJ.o wa S1 l hR pS)
     have eS:=Hy pS
     clear pS
     refine ⟨rfl,fun K hK=>?_⟩
     simp only [Sg] at hK ⊢
     go_simp
     with_reducible refine HC.o.mono ?_
     rintro en w6 ⟨B6,Kp,S2,rfl,jn,lQ,bj,j3⟩
     obtain ⟨qa,qk,rfl⟩:=za8 jn
     rw [dp.o] at jn ⊢
     have HZ:=Hy (An (rQ S2 w6 lQ bj j3) (An jn (zkZ eS.o bj)))
     clear lQ bj j3 rQ jn
     go_simp
     exact hK _ _ ⟨_,_,_,rfl,HZ.o.2.1⟩ HZ.o.2.2 HZ.o.1
    ·obtain ⟨Bq,qa,qk,e,dg⟩:=ah 6 48 De Kr rfl
     have ku:a.eval (.tmp 48)=_:=e
     have nn:=Gd ku
     have HZ:=Hy dg
     clear dg
     refine ⟨rfl,fun K hK=>?_⟩
     simp only [Sg] at hK ⊢
     go_simp
     exact hK _ _ ⟨Bq,qa,qk,rfl,HZ.o⟩ (zaR (Br _)) (zaQ hR (Br _) 7 De)
    ·obtain ⟨Bq,qa,qk,e,dg⟩:=ah 7 41 De Kr rfl
     have cw:a.eval (.tmp 41)=_:=e
     have bF:=Gd cw
     have HZ:=Hy dg
     clear dg
     refine ⟨rfl,fun K hK=>?_⟩
     simp only [Sg] at hK ⊢
     go_simp
     exact hK _ _ ⟨Bq,qa,qk,rfl,HZ.o⟩ (zaR (Br _)) (zaQ hR (Br _) 8 De)
    ·obtain ⟨Bq,qa,qk,e,dg⟩:=ah 7 41 De Kr rfl
     have cw:a.eval (.tmp 41)=_:=e
     have bF:=Gd cw
     have HZ:=Hy dg
     clear dg
     refine ⟨rfl,fun K hK=>?_⟩
     simp only [Sg] at hK ⊢
     go_simp
     exact hK _ _ rfl (zaR (Br _)) (zaQ hR (Br _) 9 De)
    have aW:=hR
    obtain ⟨_,_,nM,_⟩:=aW
    have aW:=nM.size
    clear nM
    refine ⟨rfl,fun K hK=>?_⟩
    simp only [Sg] at hK ⊢
    go_simp
    exact hK _ _ ⟨_,rfl,heap_alloc_new wa _,aW⟩ (zaR ((Br wa).alloc Lr _)) (zaQ hR ((Br wa).alloc Lr _) 10 De)
   case yf =>
    intro hf a2 wa ah
    obtain ⟨Bq,qa,qk,e,dg⟩:=ah 7 41 De Kr rfl
    have cw:a2.eval (.tmp 41)=_:=e
    have bF:=Gd cw
    clear dg
    refine ⟨.bool true,.inl ⟨rfl,fun w' _=>?_⟩,rfl⟩
    simp only [Sg]
    go_simp
   case rest =>
    intro fuel a2 wa hR ha hG
    have rR:=hG 8 49 De rfl rfl
    have nN:a2.tmps.getD 50 undef=.bool true:=hG 9 50 De rfl rfl
    have gbx:=hG 10 6 De rfl rfl
    obtain ⟨Bq,qa,qk,bB,dg⟩:=rR
    obtain ⟨bb,mF,dM,bp⟩:=gbx
    obtain ⟨FF,go⟩:=Ex (a2.tmps.getD 42 undef)
    obtain ⟨FG,gp⟩:=Ex (a2.tmps.getD 43 undef)
    obtain ⟨FH,gr⟩:=Ex (a2.tmps.getD 44 undef)
    obtain ⟨FI,gt⟩:=Ex (a2.tmps.getD 45 undef)
    obtain ⟨FJ,gu⟩:=Ex (a2.tmps.getD 46 undef)
    obtain ⟨Ej,eP⟩:=Ex (a2.tmps.getD 47 undef)
    obtain ⟨FK,gw⟩:=Ex (a2.tmps.getD 48 undef)
    obtain ⟨KD,jz⟩:=Ex (a2.tmps.getD 41 undef)
    simp only [List.foldl_cons,List.foldl_nil,bB,nN,mF,go,gp,gr,gt,gu,eP,gw,jz,Act.put,Ss] at ha
    clear bB nN mF go gp gr gt gu eP gw jz hG
    subst ha
    obtain ⟨q0,q1,q2⟩:=ze dM
    have u0:=zc dM 0
    have u1:=zc dM 1
    have u2:=zc dM 2
    refine wpAnyH_ready (rs:=[11]) Kr Sm ?_
    refine AllReadyH.cons (o:=_) rfl (fun KR aM=>?c11) AllReadyH.nil
    go_simp
    refine aM.out _ _ trivial (fun _=>?_)
    clear aM KR
    try simp only [Sg,Act.put,Ss]
    refine wpAnyH_ready (rs:=[12]) Kr Sm ?_
    refine AllReadyH.cons (o:=_) rfl (fun KR aM=>?c12) AllReadyH.nil
    go_simp
    refine aM.out _ _ trivial (fun _=>?_)
    clear aM KR
    try simp only [Sg,Act.put,Ss]
    refine wpAnyH_done Kr ?_ _
    refine NoPanic.normal ?_
    obtain ⟨S2,tM,eE,yV⟩:=hR
    rw [if_pos Dk] at tM
    have eE:Chg S1 wo wa:=(Chg.ofBelow (Br wo).drew).trans eE Fi
    have nO:w1.heap.size<=bb:=Nat.le_trans nK.o.2.1.size (by exact bp)
    have tN:=zfQ tM dM nO (.slice sa tn tc) (.slice sc' cn cc) (.slice qa ml qk)
    have tO:=zb1 dg dM (.slice sa tn tc) (.slice sc' cn cc) (.slice qa ml qk)
    have xB:=zbd dM (.slice sa tn tc) (.slice sc' cn cc) (.slice qa ml qk)
    have i5:=zea wa bb (.slice sa tn tc) (.slice sc' cn cc) (.slice qa ml qk)
    have yX:=zd9 nK.o eE H.o.2.1 De
    have gz:bT≠bb:=by have:=zi H.o.2.1;have h2:wo.heap.size<=bb:=bp;omega
    have i6:=zV yX i5 (fun e=>gz e)
    obtain ⟨W8,qH⟩:=Ex (((wa.setCell ⟨bb,0,none⟩ (.slice sa tn tc)).setCell ⟨bb,1,none⟩ (.slice sc' cn cc)).setCell ⟨bb,2,none⟩ (.slice qa ml qk))
    rw [qH] at tN tO xB i5 i6 ⊢
    have nt:=zfQ tN i6 H.o.2.2.2.2.2 (.slice sa tn tc) (.slice sc' cn cc) (.slice qa ml qk)
    have pR:=zb1 tO i6 (.slice sa tn tc) (.slice sc' cn cc) (.slice qa ml qk)
    have x9:=zbd i6 (.slice sa tn tc) (.slice sc' cn cc) (.slice qa ml qk)
    have rP:=zea W8 bT (.slice sa tn tc) (.slice sc' cn cc) (.slice qa ml qk)
    have ky:=((H.o.2.2.1.keep (eE.mono (fun k _ hk=>H.o.2.2.2.1 k hk))).keep (i5.mono (fun k _ hk=>by have hk:k=bb:=hk;have h2:wo.heap.size<=bb:=bp;have:=zi H.o.2.1;have:=eS.o;exact .inr Om))).keep (rP.mono (fun k _ hk=>by have hk:k=bT:=hk;have:=eS.o;exact .inr Om))
    have nP:∀ k,S2 k->zcs b1 k:=fun k hk=>by
     rcases yV k hk with h | h
     ·exact H.o.2.2.2.1 k h
     have h:wo.heap.size<=k:=h
     have:=zi H.o.2.1
     have:=eS.o
     exact .inr Om
    obtain ⟨l0,l1,l2⟩:=ze xB
    obtain ⟨m0,m1,m2⟩:=ze i6
    have g0:=zc i6 0
    have g1:=zc i6 1
    have g2:=zc i6 2
    obtain ⟨W9,tP⟩:=Ex (((W8.setCell ⟨bT,0,none⟩ (.slice sa tn tc)).setCell ⟨bT,1,none⟩ (.slice sc' cn cc)).setCell ⟨bT,2,none⟩ (.slice qa ml qk))
    rw [tP] at nt pR x9 ky
    have H9:=Hy (An nt (An pR (An x9 (An ky nP))))
    have FY:=Hy tP
    clear dg dM bp q0 q1 q2 u0 u1 u2 tM eE yV tN tO xB i5 nO yX i6 gz nt pR x9 rP ky nP qH tP
    have rS:=Hy (fun w' (hb:Below W9.heap.size W9 w')=>zh2 w1 sb g S2 DL Bq tn tc cn cc sa sc' (.slice qa ml qk) w' (zJ H9.o.1 hb) (zT H9.o.2.1 hb) (zf2 H.o.2.2.2.2.1))
    have FZ:=Hy (fun w' (hb:Below W9.heap.size W9 w')=>zm9 _ g _ S2 DL dn w' (zJ H9.o.1 hb).1 H9.o.1.2.2.1 H9.o.1.2.2.2 KP.o)
    rw [zkN H9.o.1.2.2.1] at FZ
    have KQ:=Hy (fun w' (hb:Below W9.heap.size W9 w')=>zh1 Bq tn tc cn cc sa sc' (.slice qa ml qk) DL dn w' (zT H9.o.2.1 hb) (by have:=H9.o.1.2.2.2;omega))
    have gZ:(zbz DL dn).length<=1000000:=Nat.le_trans (zh0 _ _ _) (by have:=H9.o.1.2.2.2;omega)
    obtain ⟨X,hX⟩:=Ex (zbz DL dn)
    rw [hX] at FZ KQ gZ
    obtain ⟨xn,lj⟩:=Ex X.length
    have wh:=Hy lj
    have rN:=Hy (fun w' a1 c1 a2 c2 (h1:TxR w' (.slice a1 xn c1) X) (h2:TxR w' (.slice a2 xn c2) X)=>show Calls prog 13 #[.slice a1 xn c1,.slice a2 xn c2] w' (BB true w') from by
     have:=zhI X X _ _ w' h1 h2 gZ gZ
     rwa [decide_eq_true (rfl:X=X)] at this)
    have HB:=Hy (fun wa (aq:Below W9.drew.heap.size W9.drew wa)=>show (wa.cell? ⟨bT,0,none⟩=some (.slice sa tn tc)/\wa.cell? ⟨bT,1,none⟩=some (.slice sc' cn cc)/\wa.cell? ⟨bT,2,none⟩=some (.slice qa ml qk))/\(wa.cell? ⟨ag,ao+i*3,none⟩=some (.int .i64 kd)/\wa.cell? ⟨ag,ao+i*3+1,none⟩=some (.string ⟨dn.toArray⟩)/\wa.cell? ⟨ag,ao+i*3+2,none⟩=some (.slice ea en ec))/\Below W9.heap.size W9 wa from by
     have hw:=(Br W9).drew.trans aq
     exact ⟨ze (Ob H9.o.2.2.1 hw),HK.o wa (cr.o.trans ((H9.o.1.2.1.trans (hw.mono H9.o.1.2.1.size)).mono cr.o.size)),hw⟩)
    clear gZ hX lj
    go_wp2_with fail
    try rw [FY.o]
    refine wp_region_noPanic ?_
    refine wp_region_held_drew (S:=fun _=>True) Kr trivial (fun _=>?_)
    refine zfJ (f:=28) (A:=fun j=>decide (j<28)) (D:=[52,53,54,55,56,57,58,59,60,61,62,63,64,65,66,67,68,69,70,71,72,73,74,75,76,77,78,79]) (G:=exG [16,24] (txP X xn) [.bool true,.bool false,.bool false,.pointer (some ⟨g,0,none⟩),.agg #[.slice sa tn tc,.slice sc' cn cc,.slice qa ml qk],.bool true,.bool false,.bool false,.bool false,.pointer (some ⟨g,0,none⟩),.slice (some ⟨ag,ao,none⟩) n ac,.int .i64 (i:Nat),.pointer (some ⟨ag,ao+i*3,none⟩),.pointer (some ⟨ag,ao+i*3+1,none⟩),.pointer (some ⟨ag,ao+i*3+1,none⟩),.string ⟨dn.toArray⟩,undef,.agg #[.slice sa tn tc,.slice sc' cn cc,.slice qa ml qk],.slice (some ⟨ag,ao,none⟩) n ac,.int .i64 (i:Nat),.pointer (some ⟨ag,ao+i*3,none⟩),.pointer (some ⟨ag,ao+i*3+1,none⟩),.pointer (some ⟨ag,ao+i*3+1,none⟩),.string ⟨dn.toArray⟩,undef,.bool true,.bool false,.bool false]) (LIT:=#[true,true,true,true,true,true,true,true,true,true,true,true,true,true,true,true,true,true,true,true,true,true,true,true,true,true,true,true]) (r:=0) Kr Kr (fun h=>absurd h Dk) (fun h=>absurd h Dk) Kr (fun h=>absurd h Dk) (fun h=>absurd h Dk) Kr (fun j v w w' h _ hb=>ze8 (T:=fun w w'=>Below w.heap.size w w') (zkP X xn) j v w w' h hb) (fun _ _ _ _ _ h=>h) ?op (fun h=>absurd h Dk) ?rest
    case op =>
     intro i' cG hA a wa aq aC ah
     have dr:i'<28:=by simpa using hA
     have aD:=HB.o _ aq
     rcases (show i'=0\/i'=1\/i'=2\/i'=3\/i'=4\/i'=5\/i'=6\/i'=7\/i'=8\/i'=9\/i'=10\/i'=11\/i'=12\/i'=13\/i'=14\/i'=15\/i'=16\/i'=17\/i'=18\/i'=19\/i'=20\/i'=21\/i'=22\/i'=23\/i'=24\/i'=25\/i'=26\/i'=27 by omega) with rfl | rfl | rfl | rfl | rfl | rfl | rfl | rfl | rfl | rfl | rfl | rfl | rfl | rfl | rfl | rfl | rfl | rfl | rfl | rfl | rfl | rfl | rfl | rfl | rfl | rfl | rfl | rfl
     ·have kn:a.eval (.tmp 7)=.bool true:=aC 7 rfl
      have qC:=Gd kn
      refine ⟨rfl,fun K hK=>?_⟩
      exact zch
     ·have tQ:a.eval (.tmp 52)=.bool true:=ah 0 52 De Kr rfl
      have yY:=Gd tQ
      refine ⟨rfl,fun K hK=>?_⟩
      exact zch
     ·have tR:a.eval (.tmp 53)=.bool false:=ah 1 53 De Kr rfl
      have yZ:=Gd tR
      refine ⟨rfl,fun K hK=>?_⟩
      exact zch
     ·have gO:a.eval (.tmp 3)=.pointer (some ⟨g,0,none⟩):=aC 3 rfl
      have km:=Gd gO
      have gC:a.eval (.tmp 54)=.bool false:=ah 2 54 De Kr rfl
      have eT:=Gd gC
      refine ⟨zK rfl rfl rfl eT,fun K hK=>?_⟩
      exact zch
     ·have yT:a.eval (.tmp 4)=.pointer (some ⟨bT,0,none⟩):=aC 4 rfl
      have yU:=Gd yT
      have gC:a.eval (.tmp 54)=.bool false:=ah 2 54 De Kr rfl
      have eT:=Gd gC
      obtain ⟨⟨c0,c1,c2⟩,⟨c3,c4,c5⟩,_⟩:=aD
      refine ⟨zK rfl rfl rfl eT,fun K hK=>?_⟩
      exact zch
     ·have F1:a.eval (.tmp 55)=.pointer (some ⟨g,0,none⟩):=ah 3 55 De Kr rfl
      have KT:=Gd F1
      have F3:a.eval (.tmp 56)=.agg #[.slice sa tn tc,.slice sc' cn cc,.slice qa ml qk]:=ah 4 56 De Kr rfl
      have KU:=Gd F3
      have gC:a.eval (.tmp 54)=.bool false:=ah 2 54 De Kr rfl
      have eT:=Gd gC
      have cu:=Hy (rS.o wa aD.2.2)
      refine ⟨zK rfl rfl rfl eT,fun K hK=>?_⟩
      exact zkT
     ·have tI:a.eval (.tmp 57)=.bool true:=ah 5 57 De Kr rfl
      have yK:=Gd tI
      have gC:a.eval (.tmp 54)=.bool false:=ah 2 54 De Kr rfl
      have eT:=Gd gC
      refine ⟨zK rfl rfl rfl eT,fun K hK=>?_⟩
      exact zch
     ·have gC:a.eval (.tmp 54)=.bool false:=ah 2 54 De Kr rfl
      have eT:=Gd gC
      have tF:a.eval (.tmp 58)=.bool false:=ah 6 58 De Kr rfl
      have yH:=Gd tF
      refine ⟨rfl,fun K hK=>?_⟩
      exact zch
     ·have tE:a.eval (.tmp 59)=.bool false:=ah 7 59 De Kr rfl
      have yG:=Gd tE
      refine ⟨rfl,fun K hK=>?_⟩
      exact zch
     ·have gO:a.eval (.tmp 3)=.pointer (some ⟨g,0,none⟩):=aC 3 rfl
      have km:=Gd gO
      exact zcg
     ·have ip:a.eval (.tmp 0)=.slice (some ⟨ag,ao,none⟩) n ac:=aC 0 rfl
      have m7:=Gd ip
      exact zcg
     ·have e8:a.eval (.tmp 5)=.int .i64 (i:Nat):=aC 5 rfl
      have gX:=Gd e8
      exact zcg
     ·have tH:a.eval (.tmp 62)=.slice (some ⟨ag,ao,none⟩) n ac:=ah 10 62 De Kr rfl
      have yJ:=Gd tH
      have F4:a.eval (.tmp 63)=.int .i64 (i:Nat):=ah 11 63 De Kr rfl
      have KV:=Gd F4
      exact zcg
     ·have F5:a.eval (.tmp 64)=.pointer (some ⟨ag,ao+i*3,none⟩):=ah 12 64 De Kr rfl
      have KW:=Gd F5
      exact zcg
     ·have F6:a.eval (.tmp 65)=.pointer (some ⟨ag,ao+i*3+1,none⟩):=ah 13 65 De Kr rfl
      have KX:=Gd F6
      exact zcg
     ·have F7:a.eval (.tmp 66)=.pointer (some ⟨ag,ao+i*3+1,none⟩):=ah 14 66 De Kr rfl
      have KY:=Gd F7
      have dQ:a.eval (.tmp 60)=.bool false:=ah 8 60 De Kr rfl
      have cY:=Gd dQ
      obtain ⟨⟨c0,c1,c2⟩,⟨c3,c4,c5⟩,_⟩:=aD
      refine ⟨zK rfl rfl rfl cY,fun K hK=>?_⟩
      exact zch
     ·have tG:a.eval (.tmp 61)=.pointer (some ⟨g,0,none⟩):=ah 9 61 De Kr rfl
      have yI:=Gd tG
      have F8:a.eval (.tmp 67)=.string ⟨dn.toArray⟩:=ah 15 67 De Kr rfl
      have KZ:=Gd F8
      have dQ:a.eval (.tmp 60)=.bool false:=ah 8 60 De Kr rfl
      have cY:=Gd dQ
      have cu:=Hy (FZ.o wa aD.2.2)
      exact zkS
     ·have yT:a.eval (.tmp 4)=.pointer (some ⟨bT,0,none⟩):=aC 4 rfl
      have yU:=Gd yT
      have dQ:a.eval (.tmp 60)=.bool false:=ah 8 60 De Kr rfl
      have cY:=Gd dQ
      obtain ⟨⟨c0,c1,c2⟩,⟨c3,c4,c5⟩,_⟩:=aD
      refine ⟨zK rfl rfl rfl cY,fun K hK=>?_⟩
      exact zch
     ·have ip:a.eval (.tmp 0)=.slice (some ⟨ag,ao,none⟩) n ac:=aC 0 rfl
      have m7:=Gd ip
      exact zcg
     ·have e8:a.eval (.tmp 5)=.int .i64 (i:Nat):=aC 5 rfl
      have gX:=Gd e8
      exact zcg
     ·have F9:a.eval (.tmp 70)=.slice (some ⟨ag,ao,none⟩) n ac:=ah 18 70 De Kr rfl
      have K1:=Gd F9
      have Ga:a.eval (.tmp 71)=.int .i64 (i:Nat):=ah 19 71 De Kr rfl
      have K2:=Gd Ga
      exact zcg
     ·have Gb:a.eval (.tmp 72)=.pointer (some ⟨ag,ao+i*3,none⟩):=ah 20 72 De Kr rfl
      have K3:=Gd Gb
      exact zcg
     ·have Gc:a.eval (.tmp 73)=.pointer (some ⟨ag,ao+i*3+1,none⟩):=ah 21 73 De Kr rfl
      have K4:=Gd Gc
      exact zcg
     ·have Ge:a.eval (.tmp 74)=.pointer (some ⟨ag,ao+i*3+1,none⟩):=ah 22 74 De Kr rfl
      have K5:=Gd Ge
      have dQ:a.eval (.tmp 60)=.bool false:=ah 8 60 De Kr rfl
      have cY:=Gd dQ
      obtain ⟨⟨c0,c1,c2⟩,⟨c3,c4,c5⟩,_⟩:=aD
      refine ⟨zK rfl rfl rfl cY,fun K hK=>?_⟩
      exact zch
     ·have Gf:a.eval (.tmp 69)=.agg #[.slice sa tn tc,.slice sc' cn cc,.slice qa ml qk]:=ah 17 69 De Kr rfl
      have K6:=Gd Gf
      have tS:a.eval (.tmp 75)=.string ⟨dn.toArray⟩:=ah 23 75 De Kr rfl
      have y9:=Gd tS
      have dQ:a.eval (.tmp 60)=.bool false:=ah 8 60 De Kr rfl
      have cY:=Gd dQ
      have cu:=Hy (KQ.o wa aD.2.2)
      exact zkS
     ·obtain ⟨p1,k1,e,dg⟩:=ah 16 68 De Kr rfl
      have Gg:a.eval (.tmp 68)=_:=e
      have K7:=Gd Gg
      have HZ:=Hy dg
      clear dg
      obtain ⟨p2,k2,e,dg⟩:=ah 24 76 De Kr rfl
      have dR:a.eval (.tmp 76)=_:=e
      have cN:=Gd dR
      have HY:=Hy dg
      clear dg
      have dQ:a.eval (.tmp 60)=.bool false:=ah 8 60 De Kr rfl
      have cY:=Gd dQ
      have cu:=Hy (rN.o wa _ _ _ _ HZ.o HY.o)
      refine ⟨zK rfl rfl rfl cY,fun K hK=>?_⟩
      exact zkT
     ·have tT:a.eval (.tmp 77)=.bool true:=ah 25 77 De Kr rfl
      have Aa:=Gd tT
      exact zcg
     have dQ:a.eval (.tmp 60)=.bool false:=ah 8 60 De Kr rfl
     have cY:=Gd dQ
     have tU:a.eval (.tmp 78)=.bool false:=ah 26 78 De Kr rfl
     have Ac:=Gd tU
     refine ⟨rfl,fun K hK=>?_⟩
     exact zch
    case rest =>
     intro fuel a2 wb aq ha hG
     have ge:a2.tmps.getD 79 undef=.bool false:=hG 27 79 De rfl rfl
     obtain ⟨x52,nQ⟩:=Ex (a2.tmps.getD 52 undef)
     obtain ⟨x53,nR⟩:=Ex (a2.tmps.getD 53 undef)
     obtain ⟨x54,nS⟩:=Ex (a2.tmps.getD 54 undef)
     obtain ⟨x55,Ad⟩:=Ex (a2.tmps.getD 55 undef)
     obtain ⟨x56,Ae⟩:=Ex (a2.tmps.getD 56 undef)
     obtain ⟨x57,nx⟩:=Ex (a2.tmps.getD 57 undef)
     obtain ⟨x58,ny⟩:=Ex (a2.tmps.getD 58 undef)
     obtain ⟨x59,nz⟩:=Ex (a2.tmps.getD 59 undef)
     obtain ⟨x60,nA⟩:=Ex (a2.tmps.getD 60 undef)
     obtain ⟨x61,nD⟩:=Ex (a2.tmps.getD 61 undef)
     obtain ⟨x62,nE⟩:=Ex (a2.tmps.getD 62 undef)
     obtain ⟨x63,Af⟩:=Ex (a2.tmps.getD 63 undef)
     obtain ⟨x64,Ag⟩:=Ex (a2.tmps.getD 64 undef)
     obtain ⟨x65,Ah⟩:=Ex (a2.tmps.getD 65 undef)
     obtain ⟨x66,Ai⟩:=Ex (a2.tmps.getD 66 undef)
     obtain ⟨x67,Aj⟩:=Ex (a2.tmps.getD 67 undef)
     obtain ⟨x68,Ak⟩:=Ex (a2.tmps.getD 68 undef)
     obtain ⟨x69,Al⟩:=Ex (a2.tmps.getD 69 undef)
     obtain ⟨x70,Am⟩:=Ex (a2.tmps.getD 70 undef)
     obtain ⟨x71,Ao⟩:=Ex (a2.tmps.getD 71 undef)
     obtain ⟨x72,Ap⟩:=Ex (a2.tmps.getD 72 undef)
     obtain ⟨x73,Aq⟩:=Ex (a2.tmps.getD 73 undef)
     obtain ⟨x74,Ar⟩:=Ex (a2.tmps.getD 74 undef)
     obtain ⟨x75,nU⟩:=Ex (a2.tmps.getD 75 undef)
     obtain ⟨x76,nV⟩:=Ex (a2.tmps.getD 76 undef)
     obtain ⟨x77,nW⟩:=Ex (a2.tmps.getD 77 undef)
     obtain ⟨x78,nY⟩:=Ex (a2.tmps.getD 78 undef)
     simp only [List.foldl_cons,List.foldl_nil,ge,nQ,nR,nS,Ad,Ae,nx,ny,nz,nA,nD,nE,Af,Ag,Ah,Ai,Aj,Ak,Al,Am,Ao,Ap,Aq,Ar,nU,nV,nW,nY,Act.put,Ss] at ha
     clear ge nQ nR nS Ad Ae nx ny nz nA nD nE Af Ag Ah Ai Aj Ak Al Am Ao Ap Aq Ar nU nV nW nY hG
     subst ha
     refine wpAnyH_done Kr ?_ _
     refine NoPanic.normal ?_
     have fO:=((Br W9).drew).trans aq
     have HF:=Hy (An (zJ H9.o.1 fO) (An (Ob H9.o.2.2.1 fO) (An (zT H9.o.2.1 fO) (H9.o.2.2.2.1.below fO))))
     clear fO aq
     go_wp2
     exact ⟨⟨i+1,g,S2,DL,qa,qk,Bq,by omega,rfl,by go_num,HF.o.1,H.o.2.2.2.2.1,by rw [dp.o];exact HF.o.2.1,by rw [dp.o];exact HF.o.2.2.1,HF.o.2.2.2,H9.o.2.2.2.2⟩,by simp [intOf];omega⟩
  have cz:i=n:=by omega
  have cW:¬ (i:Int)<(n:Int):=by omega
  have qG:=Hy (ze0 wr (zax HE.o aq))
  have iT:=Hy aq
  clear ht aW y6 hE gy j5 aq cz
  go_wp2_with fail
  with_reducible refine qG.o.mono ?_
  rintro en w6 ⟨rfl,az⟩
  have d9:=Hy (iT.o.trans (az.mono iT.o.size))
  clear az
  go_wp2
  go_ret
  exact zB rfl d9.o
end Go.Proofs.YtijglbolppkefaaGreatDoor

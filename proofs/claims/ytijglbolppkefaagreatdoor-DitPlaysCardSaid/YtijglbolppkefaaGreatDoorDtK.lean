/- Whether an entry has the values. -/
import Derived.Test.YtijglbolppkefaaGreatDoorDtAC
import Derived.Test.YtijglbolppkefaaGreatDoorMEnAB
import Derived.Test.YtijglbolppkefaaGreatDoorMDqJ
import Derived.Test.YtijglbolppkefaaGreatDoorMPlMN
import Derived.Test.YtijglbolppkefaaGreatDoorDqG
import Derived.Test.YtijglbolppkefaaGreatDoorMMoM
set_option linter.unusedVariables false
set_option linter.unusedSimpArgs false
set_option maxHeartbeats 25600000
set_option maxRecDepth 100000
namespace Go.Proofs.YtijglbolppkefaaGreatDoor
open Go.Proofs.Tryz
open Go Go.RowKit Go.Proofs.BerK Go.Proofs.MemK Go.Proofs.UtfK Go.Maps Go.WideMaps
theorem zmu {p:Prop} (h:p:=by
 have ft:Below w.heap.size w W7:=HB.o.2.2.1.trans (H7.o.2.mono HB.o.2.2.1.size)
 have BI:Below w4.heap.size w4 W7:=(HB.o.1.trans (HB.o.2.1.mono HB.o.1.size)).trans (H7.o.2.mono (Nat.le_trans HB.o.1.size HB.o.2.1.size))
 obtain ⟨m0,m1,m2⟩:=ze H7.o.1
 obtain ⟨x0,x1⟩:=zf (Ob HX5.o H7.o.2)
 have f0:=(H7.o.2.cell (p:=⟨bx,0,none⟩) zx).trans f0
 have f1:=(H7.o.2.cell (p:=⟨bx,1,none⟩) zx).trans f1
 obtain ⟨q,hq⟩:=Ex ((geL A pt).any (zaa tr pv))
 have BJ:=Hy (BK.o W7 ft pt pv tr gd.o)
 rw [hq] at BJ
 have oN:=Hy hq
 have kM:=Hy (An ft BI)
 clear hq ft BI
 cases q with
 | false =>
  go_wp2_with fail
  refine BJ.o.mono ?_
  rintro en w8 ⟨rfl,bz⟩
  have H8:=Hy bz
  clear bz m0 m1 m2 x0 x1 f0 f1
  go_wp2
  go_ret
  exact zB (HB.o.2.2.2.2 (by rw [HQ.o,oN.o])) (kM.o.1.trans (H8.o.mono kM.o.1.size))
 | true =>
  go_wp2_with fail
  refine BJ.o.mono ?_
  rintro en w8 ⟨rfl,bz⟩
  have H8:=Hy bz
  clear bz m0 m1 m2 x0 x1 f0 f1
  go_wp2
  exact ⟨⟨j+1,by omega,by go_num,kM.o.2.trans (H8.o.mono kM.o.2.size),by rw [HB.o.2.2.2.1,HQ.o,oN.o];rfl⟩,by simp [intOf];omega⟩):p:=h
theorem zmv {p:Prop} (h:p:=by
 exact ⟨((zY (Nat.ne_of_lt zg) _ _ _ _ _ _ _).trans ei),((zY (Nat.ne_of_lt zx) _ _ _ _ _ _ _).trans ka)⟩):p:=h
theorem zmw {p:Prop} (h:p:=by
 go_wp2
 go_ret
 exact ⟨by rw [<- L3.o];rfl,H6.o.2.trans (H8.o.mono H6.o.2.size)⟩):p:=h
theorem zmx {p:Prop} (h:p:=by
 go_wp2
 go_ret
 exact zB HQ.o (HB.o.2.2.1.trans (H7.o.2.mono HB.o.2.2.1.size))):p:=h
def nmP (A:List Atr) (p:Av):Bool:=match scT plT p.1 with
 | none=>false
 | some t=>(geL A p.1).any (zaa t.2.1 p.2)
theorem zt2 (A:List Atr) (r:List Av):zfv A r=r.all (nmP A):=rfl
theorem zmy {s:Bs} {r:List Av} {D:List (List Av)} (h:nrD s=some (r :: D)):rdD (ptL r)=([r],0)/\r.length<=4096/\∀ p∈r,p.1.length<=4096/\p.2.length<=4096:=by
 obtain ⟨g1,_⟩:=zeU (zaA h).2
 have hp:=(g1.2.1 r Sm).1
 obtain ⟨p1,p2,p3⟩:=zcv hp
 refine ⟨by rw [<- zj4];exact zhj [r] g1.1 (fun q hq=>(g1.2.1 q hq).1) g1.2.2,by omega,fun p hp=>?_⟩
 have h3:=p3 p hp
 simp only [zbH,Bool.and_eq_true,decide_eq_true_eq] at h3
 have:=zlf h3.1.1
 exact ⟨by omega,by omega⟩
theorem zt3 {α:Type} (f:α->Bool) (r:List α) (j:Nat) (h:j<r.length):(r.take (j+1)).all f=((r.take j).all f && f r[j]):=by
 rw [List.take_succ_eq_append_getElem h,List.all_append];simp
theorem zmz {α:Type} (f:α->Bool) (r:List α) (j:Nat) (h:j<r.length) (hb:f r[j]=false):r.all f=false:=by
 rw [List.all_eq_false]
 exact ⟨r[j],List.getElem_mem h,by simp [hb]⟩
theorem zt4 (g sb:Nat) (A:List Atr) (dn:Bs) (r:List Av) (D:List (List Av)) (av:Value) (w:World) (hg:w.cell? ⟨g,0,none⟩=some (.pointer (some ⟨sb,0,none⟩))) (zg:g<w.heap.size) (bk:ic w sb plT plC) (hA:zak w av A) (hf:zdB A) (hn:nrD dn=some (r :: D)) (he:zD w) :
  Calls prog 57 #[.pointer (some ⟨g,0,none⟩),.agg #[.string ⟨dn.toArray⟩,av]] w (BB (zfv A r) w):=by
 obtain ⟨W0,aN⟩:=Ex (w.alloc (.cells #[.string ⟨dn.toArray⟩,av] 39))
 have aE:=Nb aN
 have bB:=Nw aN
 obtain ⟨dD,bP,ol⟩:=zmy hn
 have sj:=Hy (show Calls prog 59 #[.string ⟨dn.toArray⟩] W0 (zdG (ptL r,true) W0) from zeV hn ▸ zpo dn W0 (zax he aE))
 have p9:=Hy (fun w' (hb:Below W0.heap.size W0 w')=>show Calls prog 104 #[.string ⟨(ptL r).toArray⟩] w' (zga ([r],0) 144 140 w') from dD ▸ zlX ⟨(ptL r).toArray⟩ w' (zax he (aE.trans (hb.mono aE.size))))
 have fF:=Hy (fun w' (hb:Below w.heap.size w w') s (hs:s.length<=140737488355328)=>zq6 sb plT plC s w' (zby bk hb) zoc hs Dk)
 have BK:=Hy (fun w' (hb:Below w.heap.size w w') t x q (ht:t.length<=140737488355328)=>zxD A dn t x q av w' (zcb hA hb) hf ht (zax he hb))
 obtain ⟨a,c,rfl⟩:=zdH hA
 obtain ⟨n,fs⟩:=Ex A.length
 rw [fs] at aN bB BK ⊢
 obtain ⟨d0,d1⟩:=zf bB
 have HX:=Hy (An aE bB)
 have gD:=Hy aN
 have HP:=Hy ol
 have HG:=Hy hg
 rw [zt2]
 obtain ⟨f,G8⟩:=Ex (nmP A)
 have HF:=Hy G8.symm
 rw [G8]
 clear bk hA hf hn he fs aE bB aN ol dD G8 hg
 go_enter func57,ntmps57
 go_wp2_with fail
 rw [gD.o]
 go_wp2_with fail
 refine sj.o.mono ?_
 rintro e w2 ⟨rfl,ak⟩
 have bw:=Hy ak
 clear ak
 go_wp2_with fail
 refine (p9.o w2 bw.o).mono ?_
 rintro e w4 (⟨h0,_,_⟩ | ⟨_,pg,gs,rfl,aG,bf⟩)
 ·cases h0
 have hdn:=zf9 aG
 have ut:Below W0.heap.size W0 w4:=bw.o.trans (bf.mono bw.o.size)
 obtain ⟨pa,pc,Ey,_,jr⟩:=hdn
 obtain ⟨pg',po,rv,cP,dN,mN,cH⟩:=jr 0 Sm
 simp only [zaH,List.length_cons,List.length_nil] at Ey
 injection Ey with hpe1 _ hpe3
 subst cP
 injection hpe1 with hpe1
 injection hpe1 with hpe1 hpe2 _
 subst hpe1 hpe2
 have mN:w4.cell? ⟨pg,0,none⟩=some rv:=mN
 obtain ⟨ra,rc,rfl,_,ae⟩:=cH
 have mN:w4.cell? ⟨pg,0,none⟩=some (.slice ra r.length rc):=mN
 have ae:∀ i (h:i<r.length),∃ g o,ra=some ⟨g,o,none⟩/\g<w4.heap.size/\w4.cell? ⟨g,o+i*2,none⟩=some (.string ⟨r[i].1.toArray⟩)/\w4.cell? ⟨g,o+i*2+1,none⟩=some (.string ⟨r[i].2.toArray⟩):=ae
 have HM:=Hy ae
 have L4:=Hy (An mN dN)
 have lZ:=Hy (An ut (HX.o.1.trans (ut.mono HX.o.1.size)))
 obtain ⟨m,hm⟩:=Ex r.length
 have dp:=Hy hm
 have BL:m<=4096:=by rw [<- hm];exact bP
 simp only [zaH,List.length_cons,List.length_nil]
 clear aG bf ut mN ae jr dN hm bP d0 d1 hpe3
 go_wp2
 go_loopw [28] (fun v wr=>∃ k:Nat,k<=1/\v=.int .i64 (k:Nat)/\Below w4.heap.size w4 wr/\(k=1->r.all f=true)) (fun v _=>1 - (intOf v).toNat)
 case atStart=>exact ⟨0,by omega,rfl,Br _,fun h=>by omega⟩
 case round =>
  obtain ⟨k,hk,rfl,sm,af⟩:=hrel
  obtain ⟨wo,rfl⟩:∃ x,x=wr:=⟨_,rfl⟩
  by_cases aj:k<1
  ·have cX:k=0:=by omega
   have bh:(k:Int)<1:=by omega
   have e0:wo.cell? ⟨pg,k,none⟩=some (.slice ra r.length rc):=by rw [cX];exact (sm.cell (p:=⟨pg,0,none⟩) L4.o.2).trans L4.o.1
   have G9:=Hy (An sm cX)
   rw [dp.o] at e0
   clear sm af aj hk cX
   go_wp2
   clear e0
   go_loopw [34] (fun v wi=>∃ j:Nat,j<=m/\v=.int .i64 (j:Nat)/\Below w4.heap.size w4 wi/\(r.take j).all f=true) (fun v _=>m - (intOf v).toNat)
   case atStart=>exact ⟨0,by omega,rfl,G9.o.1,rfl⟩
   case round =>
    obtain ⟨j,hj,rfl,hb,af⟩:=hrel
    by_cases aj:j<m
    ·have bh:(j:Int)<(m:Int):=by omega
     have A3:j<r.length:=by rw [dp.o];exact aj
     obtain ⟨ag,ao,rfl,j6,BM,BN⟩:=HM.o j A3
     have a0:=(hb.cell (p:=⟨ag,_,none⟩) j6).trans BM
     have a1:=(hb.cell (p:=⟨ag,_,none⟩) j6).trans BN
     have bm:=zt3 f r j A3
     have bJ:=zmz f r j A3
     have dN:=HP.o _ (List.getElem_mem A3)
     obtain ⟨⟨pt,pv⟩,oO⟩:∃ x,r[j]=x:=⟨_,rfl⟩
     rw [oO] at a0 a1 bm bJ dN
     dsimp only at a0 a1 dN
     rw [af] at bm
     obtain ⟨W5,eQ⟩:=Ex (wr.alloc (.cells #[.string ⟨pt.toArray⟩,.string ⟨pv.toArray⟩] 144))
     have ai:=Nb eQ
     have y5:=Nw eQ
     have cM:Below w.heap.size w W5:=lZ.o.2.trans ((hb.trans (ai.mono hb.size)).mono lZ.o.2.size)
     obtain ⟨f0,f1⟩:=zf y5
     have zx:=zi y5
     have ps:=(cM.cell (p:=⟨g,0,none⟩) zg).trans HG.o
     have l3:=zg
     have zg:=Nat.lt_of_lt_of_le zg cM.size
     have fF:=Hy (fun w' (co:Below W5.heap.size W5 w')=>fF.o w' (cM.trans (co.mono cM.size)) pt Om)
     have HB:=Hy (An hb (An ai (An cM (An bm bJ))))
     have sn:=zj HX.o.2 ((lZ.o.1.trans ((hb.trans (ai.mono hb.size)).mono lZ.o.1.size))) (zi HX.o.2)
     have HX5:=Hy sn
     have gd:=Hy (show pt.length<=140737488355328 by omega)
     have mD:=Hy eQ
     obtain ⟨bx,aD⟩:=Ex wr.heap.size
     rw [aD] at f0 f1 zx
     clear hb ai y5 cM bm bJ af BM BN oO sn eQ dN
     cases bk:scT plT pt with
     | none =>
      rw [bk] at fF
      have fF:=Hy (fun w' (co:Below W5.heap.size W5 w')=>show Calls prog 105 #[.pointer (some ⟨sb,0,none⟩),.string ⟨pt.toArray⟩] w' (fun en w''=>en=.returned (.tuple #[.agg #[.string ⟨#[]⟩,.int .i64 0,.bool false],.bool false])/\Below w'.heap.size w' w'') from fF.o w' co)
      have HQ:=Hy (show r.all f=false from HB.o.2.2.2.2 (by rw [HF.o];unfold nmP;rw [bk]))
      clear bk
      go_wp2_with fail
      rw [mD.o]
      clear aD a0 a1
      have kps:∀ ob,(W5.drew.alloc ob).cell? ⟨g,0,none⟩=some (.pointer (some ⟨sb,0,none⟩)):=fun ob=>(((Below.refl W5.heap.size W5).drew.alloc Lr ob).cell (p:=⟨g,0,none⟩) zg).trans ps
      have Ha:∀ ob,(W5.drew.alloc ob).cell? ⟨bx,0,none⟩=some (.string ⟨pt.toArray⟩):=fun ob=>(((Below.refl W5.heap.size W5).drew.alloc Lr ob).cell (p:=⟨bx,0,none⟩) zx).trans f0
      refine wp_region_noPanic ?_
      refine wp_region_held_drew (S:=fun w'=>w'.cell? ⟨g,0,none⟩=some (.pointer (some ⟨sb,0,none⟩))/\w'.cell? ⟨bx,0,none⟩=some (.string ⟨pt.toArray⟩)) Kr ?_ (fun aI=>?_)
      ·exact ⟨ps,f0⟩
      refine wpAnyH_take (i:=0) (v:=?vk0) rfl Kr Kr Kr Fh (Or.inl ⟨by rfl,?yk0⟩) As ?rk0
      case yk0=>(intro w' ar;(try dsimp only at ar);go_simp;with_reducible rfl)
      try simp only [Sg,Act.put,Ss]
      refine wpAnyH_take (i:=1) (v:=?vk1) rfl Kr Kr Kr Fh (Or.inl ⟨by rfl,?yk1⟩) As ?rk1
      case yk1=>(intro w' ar;(try dsimp only at ar);go_simp;with_reducible rfl)
      try simp only [Sg,Act.put,Ss]
      refine wpAnyH_take (i:=2) (v:=?vk2) rfl Kr Kr Kr Fh (Or.inl ⟨by rfl,?yk2⟩) As ?rk2
      case yk2=>(intro w' ar;(try dsimp only at ar);go_simp;with_reducible rfl)
      try simp only [Sg,Act.put,Ss]
      refine wpAnyH_take (i:=3) (v:=?vk3) rfl Kr Kr Kr Fh (Or.inl ⟨by rfl,?yk3⟩) As ?rk3
      case yk3=>(intro w' ar;(try dsimp only at ar);go_simp;with_reducible rfl)
      try simp only [Sg,Act.put,Ss]
      refine wpAnyH_take (i:=4) (v:=?vk4) rfl Kr Kr Kr Fh (Or.inl ⟨by rfl,?yk4⟩) As ?rk4
      case yk4=>(intro w' ar;(try dsimp only at ar);go_simp;with_reducible rfl)
      try simp only [Sg,Act.put,Ss]
      refine wpAnyH_take (i:=5) (v:=?vk5) rfl Kr Kr Kr Fh (Or.inl ⟨by rfl,?yk5⟩) As ?rk5
      case yk5=>(intro w' ar;(try dsimp only at ar);go_simp;with_reducible rfl)
      try simp only [Sg,Act.put,Ss]
      refine wpAnyH_ready (rs:=[6,10]) Kr Sm ?_
      refine (AllReadyH.cons (o:=_) rfl (fun KR aM=>?ckb6) (AllReadyH.cons (o:=_) rfl (fun KR aM=>?ckb10) AllReadyH.nil))
      case ckb6 =>
       go_simp
       go_at_call 105
       with_reducible refine (fF.o _ (by first | exact (Br _).drew | exact Br _)).mono ?_
       rintro en w6 ⟨rfl,az⟩
       have az:Below W5.heap.size W5 w6:=(by first | exact (Br W5).drew.trans az | exact az)
       have ei:=(az.cell (p:=⟨g,0,none⟩) zg).trans ps
       have ka:=(az.cell (p:=⟨bx,0,none⟩) zx).trans f0
       have ips:∀ ob,(w6.alloc ob).cell? ⟨g,0,none⟩=some (.pointer (some ⟨sb,0,none⟩)):=fun ob=>(((Below.refl w6.heap.size w6).alloc Lr ob).cell (p:=⟨g,0,none⟩) (Nat.lt_of_lt_of_le zg az.size)).trans ei
       have uu:∀ ob,(w6.alloc ob).cell? ⟨bx,0,none⟩=some (.string ⟨pt.toArray⟩):=fun ob=>(((Below.refl w6.heap.size w6).alloc Lr ob).cell (p:=⟨bx,0,none⟩) (Nat.lt_of_lt_of_le zx az.size)).trans ka
       have H6:=Hy az
       clear az
       go_wp2_with fail
       refine aM.out _ _ ?_ (fun aI=>?_)
       ·exact ⟨ei,ka⟩
       clear aM KR
       try simp only [Sg,Act.put,Ss]
       refine wpAnyH_take (i:=7) (v:=?vkb67) rfl Kr Kr Kr Fh (Or.inl ⟨by rfl,?ykb67⟩) As ?rkb67
       case ykb67=>(intro w' ar;(try dsimp only at ar);go_simp;with_reducible rfl)
       try simp only [Sg,Act.put,Ss]
       refine wpAnyH_take (i:=8) (v:=?vkb68) rfl Kr Kr Kr Fh (Or.inl ⟨by rfl,?ykb68⟩) As ?rkb68
       case ykb68=>(intro w' ar;(try dsimp only at ar);go_simp;with_reducible rfl)
       try simp only [Sg,Act.put,Ss]
       refine wpAnyH_take (i:=9) (v:=?vkb69) rfl Kr Kr Kr Fh (Or.inl ⟨by rfl,?ykb69⟩) As ?rkb69
       case ykb69=>(intro w' ar;(try dsimp only at ar);go_simp;with_reducible rfl)
       try simp only [Sg,Act.put,Ss]
       refine wpAnyH_ready (rs:=[10]) Kr Sm ?_
       refine AllReadyH.cons (o:=_) rfl (fun KR aM=>?ckb610) ?nkb610
       case nkb610=>exact AllReadyH.nil
       go_simp
       refine aM.out _ _ ?_ (fun aI=>?_)
       ·exact ⟨ips _,uu _⟩
       clear aM KR
       try simp only [Sg,Act.put,Ss]
       refine wpAnyH_ready (rs:=[11]) Kr Sm ?_
       refine AllReadyH.cons (o:=_) rfl (fun KR aM=>?ckb611) ?nkb611
       case nkb611=>exact AllReadyH.nil
       go_simp
       refine aM.out _ _ ?_ (fun aI=>?_)
       ·exact ⟨ips _,uu _⟩
       clear aM KR
       try simp only [Sg,Act.put,Ss]
       refine wpAnyH_take (i:=12) (v:=?vkb612) rfl Kr Kr Kr Fh (Or.inl ⟨by rfl,?ykb612⟩) As ?rkb612
       case ykb612=>(intro w' ar;(try dsimp only at ar);go_simp;with_reducible rfl)
       try simp only [Sg,Act.put,Ss]
       refine wpAnyH_done Kr ?_ _
       refine NoPanic.normal ?_
       obtain ⟨W7,aT⟩:=Ex (w6.alloc (.cells #[.string ⟨#[]⟩,.int .i64 0,.bool false] 69))
       have eG:=Nw aT
       have aR:Below W5.heap.size W5 W7:=by rw [<- aT];exact H6.o.alloc H6.o.size _
       rw [aT]
       obtain ⟨Hc,dm⟩:=Ex w6.heap.size
       rw [dm] at eG ⊢
       have H7:=Hy (An eG aR)
       clear eG aR aT dm H6 ei ips ka uu
       exact zmx
      case ckb10 =>
       go_simp
       refine aM.out _ _ ?_ (fun aI=>?_)
       ·exact ⟨kps _,Ha _⟩
       clear aM KR
       try simp only [Sg,Act.put,Ss]
       refine wpAnyH_ready (rs:=[6]) Kr Sm ?_
       refine AllReadyH.cons (o:=_) rfl (fun KR aM=>?ckb106) ?nkb106
       case nkb106=>exact AllReadyH.nil
       go_simp
       go_at_call 105
       with_reducible refine (fF.o _ (by first | exact ((Br W5).drew.alloc Lr _) | exact ((Br W5).alloc Lr _).drew | exact ((Br W5).alloc Lr _))).mono ?_
       rintro en w6 ⟨rfl,az⟩
       have aw:w6.heap[W5.heap.size]?=some (.cells #[.string ⟨#[]⟩,.int .i64 0,.bool false] 69 (0,0)):=(by first | exact zj (heap_alloc_new W5.drew _) az Sm | exact zj (w:=(W5.alloc _).drew) (heap_alloc_new W5 _) az (by show _<(W5.alloc _).heap.size;simp))
       have az:Below W5.heap.size W5 w6:=(by first | exact ((Br W5).drew.alloc Lr _).trans (az.mono Sm) | exact ((Br W5).alloc Lr _).drew.trans (az.mono (by show _<=(W5.alloc _).heap.size;simp)))
       have ei:=(az.cell (p:=⟨g,0,none⟩) zg).trans ps
       have ka:=(az.cell (p:=⟨bx,0,none⟩) zx).trans f0
       have b0_:=zq aw 0 _ rfl
       have b1_:=zq aw 1 _ rfl
       have b2_:=zq aw 2 _ rfl
       have g0_:=zc aw 0
       have g1_:=zc aw 1
       have g2_:=zc aw 2
       have H6:=Hy (An az aw)
       clear az aw
       go_wp2_with fail
       refine aM.out _ _ ?_ (fun aI=>?_)
       ·exact ⟨ei,ka⟩
       clear aM KR
       try simp only [Sg,Act.put,Ss]
       refine wpAnyH_take (i:=7) (v:=?vkb107) rfl Kr Kr Kr Fh (Or.inl ⟨by rfl,?ykb107⟩) As ?rkb107
       case ykb107=>(intro w' ar;(try dsimp only at ar);go_simp;with_reducible rfl)
       try simp only [Sg,Act.put,Ss]
       refine wpAnyH_take (i:=8) (v:=?vkb108) rfl Kr Kr Kr Fh (Or.inl ⟨by rfl,?ykb108⟩) As ?rkb108
       case ykb108=>(intro w' ar;(try dsimp only at ar);go_simp;with_reducible rfl)
       try simp only [Sg,Act.put,Ss]
       refine wpAnyH_take (i:=9) (v:=?vkb109) rfl Kr Kr Kr Fh (Or.inl ⟨by rfl,?ykb109⟩) As ?rkb109
       case ykb109=>(intro w' ar;(try dsimp only at ar);go_simp;with_reducible rfl)
       try simp only [Sg,Act.put,Ss]
       refine wpAnyH_ready (rs:=[11]) Kr Sm ?_
       refine AllReadyH.cons (o:=_) rfl (fun KR aM=>?ckb1011) ?nkb1011
       case nkb1011=>exact AllReadyH.nil
       go_simp
       refine aM.out _ _ ?_ (fun aI=>?_)
       ·exact zmv
       clear aM KR
       try simp only [Sg,Act.put,Ss]
       refine wpAnyH_take (i:=12) (v:=?vkb1012) rfl Kr Kr Kr Fh (Or.inl ⟨by rfl,?ykb1012⟩) As ?rkb1012
       case ykb1012=>(intro w' ar;(try dsimp only at ar);go_simp;with_reducible rfl)
       try simp only [Sg,Act.put,Ss]
       refine wpAnyH_done Kr ?_ _
       refine NoPanic.normal ?_
       obtain ⟨W7,aT⟩:=Ex (((w6.setCell ⟨W5.heap.size,0,none⟩ (.string ⟨#[]⟩)).setCell ⟨W5.heap.size,1,none⟩ (.int .i64 0)).setCell ⟨W5.heap.size,2,none⟩ (.bool false))
       have eG:W7.heap[W5.heap.size]?=some (.cells #[.string ⟨#[]⟩,.int .i64 0,.bool false] 69 (0,0)):=by rw [<- aT];exact zbR H6.o.2 _ _ _
       have aR:Below W5.heap.size W5 W7:=by rw [<- aT];exact zbV H6.o.1 Lr _ _ _
       rw [aT]
       obtain ⟨Hc,dm⟩:=Ex W5.heap.size
       rw [dm] at eG ⊢
       have H7:=Hy (An eG aR)
       clear eG aR aT dm H6 ei ka b0_ g0_ b1_ g1_ b2_ g2_
       exact zmx
     | some t =>
      obtain ⟨tn,tr,tb⟩:=t
      rw [bk] at fF
      have fF:=Hy (fun w' (co:Below W5.heap.size W5 w')=>show Calls prog 105 #[.pointer (some ⟨sb,0,none⟩),.string ⟨pt.toArray⟩] w' (fun en w''=>en=.returned (.tuple #[.agg #[.string ⟨tn.toArray⟩,.int .i64 tr,.bool tb],.bool true])/\Below w'.heap.size w' w'') from fF.o w' co)
      have HQ:=Hy (show f (pt,pv)=(geL A pt).any (zaa tr pv) by rw [HF.o];unfold nmP;rw [bk])
      clear bk
      go_wp2_with fail
      rw [mD.o]
      clear aD a0 a1
      have kps:∀ ob,(W5.drew.alloc ob).cell? ⟨g,0,none⟩=some (.pointer (some ⟨sb,0,none⟩)):=fun ob=>(((Below.refl W5.heap.size W5).drew.alloc Lr ob).cell (p:=⟨g,0,none⟩) zg).trans ps
      have Ha:∀ ob,(W5.drew.alloc ob).cell? ⟨bx,0,none⟩=some (.string ⟨pt.toArray⟩):=fun ob=>(((Below.refl W5.heap.size W5).drew.alloc Lr ob).cell (p:=⟨bx,0,none⟩) zx).trans f0
      refine wp_region_noPanic ?_
      refine wp_region_held_drew (S:=fun w'=>w'.cell? ⟨g,0,none⟩=some (.pointer (some ⟨sb,0,none⟩))/\w'.cell? ⟨bx,0,none⟩=some (.string ⟨pt.toArray⟩)) Kr ?_ (fun aI=>?_)
      ·exact ⟨ps,f0⟩
      refine wpAnyH_take (i:=0) (v:=?vl0) rfl Kr Kr Kr Fh (Or.inl ⟨by rfl,?yl0⟩) As ?rl0
      case yl0=>(intro w' ar;(try dsimp only at ar);go_simp;with_reducible rfl)
      try simp only [Sg,Act.put,Ss]
      refine wpAnyH_take (i:=1) (v:=?vl1) rfl Kr Kr Kr Fh (Or.inl ⟨by rfl,?yl1⟩) As ?rl1
      case yl1=>(intro w' ar;(try dsimp only at ar);go_simp;with_reducible rfl)
      try simp only [Sg,Act.put,Ss]
      refine wpAnyH_take (i:=2) (v:=?vl2) rfl Kr Kr Kr Fh (Or.inl ⟨by rfl,?yl2⟩) As ?rl2
      case yl2=>(intro w' ar;(try dsimp only at ar);go_simp;with_reducible rfl)
      try simp only [Sg,Act.put,Ss]
      refine wpAnyH_take (i:=3) (v:=?vl3) rfl Kr Kr Kr Fh (Or.inl ⟨by rfl,?yl3⟩) As ?rl3
      case yl3=>(intro w' ar;(try dsimp only at ar);go_simp;with_reducible rfl)
      try simp only [Sg,Act.put,Ss]
      refine wpAnyH_take (i:=4) (v:=?vl4) rfl Kr Kr Kr Fh (Or.inl ⟨by rfl,?yl4⟩) As ?rl4
      case yl4=>(intro w' ar;(try dsimp only at ar);go_simp;with_reducible rfl)
      try simp only [Sg,Act.put,Ss]
      refine wpAnyH_take (i:=5) (v:=?vl5) rfl Kr Kr Kr Fh (Or.inl ⟨by rfl,?yl5⟩) As ?rl5
      case yl5=>(intro w' ar;(try dsimp only at ar);go_simp;with_reducible rfl)
      try simp only [Sg,Act.put,Ss]
      refine wpAnyH_ready (rs:=[6,10]) Kr Sm ?_
      refine (AllReadyH.cons (o:=_) rfl (fun KR aM=>?clb6) (AllReadyH.cons (o:=_) rfl (fun KR aM=>?clb10) AllReadyH.nil))
      case clb6 =>
       go_simp
       go_at_call 105
       with_reducible refine (fF.o _ (by first | exact (Br _).drew | exact Br _)).mono ?_
       rintro en w6 ⟨rfl,az⟩
       have az:Below W5.heap.size W5 w6:=(by first | exact (Br W5).drew.trans az | exact az)
       have ei:=(az.cell (p:=⟨g,0,none⟩) zg).trans ps
       have ka:=(az.cell (p:=⟨bx,0,none⟩) zx).trans f0
       have ips:∀ ob,(w6.alloc ob).cell? ⟨g,0,none⟩=some (.pointer (some ⟨sb,0,none⟩)):=fun ob=>(((Below.refl w6.heap.size w6).alloc Lr ob).cell (p:=⟨g,0,none⟩) (Nat.lt_of_lt_of_le zg az.size)).trans ei
       have uu:∀ ob,(w6.alloc ob).cell? ⟨bx,0,none⟩=some (.string ⟨pt.toArray⟩):=fun ob=>(((Below.refl w6.heap.size w6).alloc Lr ob).cell (p:=⟨bx,0,none⟩) (Nat.lt_of_lt_of_le zx az.size)).trans ka
       have H6:=Hy az
       clear az
       go_wp2_with fail
       refine aM.out _ _ ?_ (fun aI=>?_)
       ·exact ⟨ei,ka⟩
       clear aM KR
       try simp only [Sg,Act.put,Ss]
       refine wpAnyH_take (i:=7) (v:=?vlb67) rfl Kr Kr Kr Fh (Or.inl ⟨by rfl,?ylb67⟩) As ?rlb67
       case ylb67=>(intro w' ar;(try dsimp only at ar);go_simp;with_reducible rfl)
       try simp only [Sg,Act.put,Ss]
       refine wpAnyH_take (i:=8) (v:=?vlb68) rfl Kr Kr Kr Fh (Or.inl ⟨by rfl,?ylb68⟩) As ?rlb68
       case ylb68=>(intro w' ar;(try dsimp only at ar);go_simp;with_reducible rfl)
       try simp only [Sg,Act.put,Ss]
       refine wpAnyH_take (i:=9) (v:=?vlb69) rfl Kr Kr Kr Fh (Or.inl ⟨by rfl,?ylb69⟩) As ?rlb69
       case ylb69=>(intro w' ar;(try dsimp only at ar);go_simp;with_reducible rfl)
       try simp only [Sg,Act.put,Ss]
       refine wpAnyH_ready (rs:=[10]) Kr Sm ?_
       refine AllReadyH.cons (o:=_) rfl (fun KR aM=>?clb610) ?nlb610
       case nlb610=>exact AllReadyH.nil
       go_simp
       refine aM.out _ _ ?_ (fun aI=>?_)
       ·exact ⟨ips _,uu _⟩
       clear aM KR
       try simp only [Sg,Act.put,Ss]
       refine wpAnyH_ready (rs:=[11]) Kr Sm ?_
       refine AllReadyH.cons (o:=_) rfl (fun KR aM=>?clb611) ?nlb611
       case nlb611=>exact AllReadyH.nil
       go_simp
       refine aM.out _ _ ?_ (fun aI=>?_)
       ·exact ⟨ips _,uu _⟩
       clear aM KR
       try simp only [Sg,Act.put,Ss]
       refine wpAnyH_take (i:=12) (v:=?vlb612) rfl Kr Kr Kr Fh (Or.inl ⟨by rfl,?ylb612⟩) As ?rlb612
       case ylb612=>(intro w' ar;(try dsimp only at ar);go_simp;with_reducible rfl)
       try simp only [Sg,Act.put,Ss]
       refine wpAnyH_done Kr ?_ _
       refine NoPanic.normal ?_
       obtain ⟨W7,aT⟩:=Ex (w6.alloc (.cells #[.string ⟨tn.toArray⟩,.int .i64 tr,.bool tb] 69))
       have eG:=Nw aT
       have aR:Below W5.heap.size W5 W7:=by rw [<- aT];exact H6.o.alloc H6.o.size _
       rw [aT]
       obtain ⟨Hc,dm⟩:=Ex w6.heap.size
       rw [dm] at eG ⊢
       have H7:=Hy (An eG aR)
       clear eG aR aT dm H6 ei ips ka uu
       exact zmu
      case clb10 =>
       go_simp
       refine aM.out _ _ ?_ (fun aI=>?_)
       ·exact ⟨kps _,Ha _⟩
       clear aM KR
       try simp only [Sg,Act.put,Ss]
       refine wpAnyH_ready (rs:=[6]) Kr Sm ?_
       refine AllReadyH.cons (o:=_) rfl (fun KR aM=>?clb106) ?nlb106
       case nlb106=>exact AllReadyH.nil
       go_simp
       go_at_call 105
       with_reducible refine (fF.o _ (by first | exact ((Br W5).drew.alloc Lr _) | exact ((Br W5).alloc Lr _).drew | exact ((Br W5).alloc Lr _))).mono ?_
       rintro en w6 ⟨rfl,az⟩
       have aw:w6.heap[W5.heap.size]?=some (.cells #[.string ⟨#[]⟩,.int .i64 0,.bool false] 69 (0,0)):=(by first | exact zj (heap_alloc_new W5.drew _) az Sm | exact zj (w:=(W5.alloc _).drew) (heap_alloc_new W5 _) az (by show _<(W5.alloc _).heap.size;simp))
       have az:Below W5.heap.size W5 w6:=(by first | exact ((Br W5).drew.alloc Lr _).trans (az.mono Sm) | exact ((Br W5).alloc Lr _).drew.trans (az.mono (by show _<=(W5.alloc _).heap.size;simp)))
       have ei:=(az.cell (p:=⟨g,0,none⟩) zg).trans ps
       have ka:=(az.cell (p:=⟨bx,0,none⟩) zx).trans f0
       have b0_:=zq aw 0 _ rfl
       have b1_:=zq aw 1 _ rfl
       have b2_:=zq aw 2 _ rfl
       have g0_:=zc aw 0
       have g1_:=zc aw 1
       have g2_:=zc aw 2
       have H6:=Hy (An az aw)
       clear az aw
       go_wp2_with fail
       refine aM.out _ _ ?_ (fun aI=>?_)
       ·exact ⟨ei,ka⟩
       clear aM KR
       try simp only [Sg,Act.put,Ss]
       refine wpAnyH_take (i:=7) (v:=?vlb107) rfl Kr Kr Kr Fh (Or.inl ⟨by rfl,?ylb107⟩) As ?rlb107
       case ylb107=>(intro w' ar;(try dsimp only at ar);go_simp;with_reducible rfl)
       try simp only [Sg,Act.put,Ss]
       refine wpAnyH_take (i:=8) (v:=?vlb108) rfl Kr Kr Kr Fh (Or.inl ⟨by rfl,?ylb108⟩) As ?rlb108
       case ylb108=>(intro w' ar;(try dsimp only at ar);go_simp;with_reducible rfl)
       try simp only [Sg,Act.put,Ss]
       refine wpAnyH_take (i:=9) (v:=?vlb109) rfl Kr Kr Kr Fh (Or.inl ⟨by rfl,?ylb109⟩) As ?rlb109
       case ylb109=>(intro w' ar;(try dsimp only at ar);go_simp;with_reducible rfl)
       try simp only [Sg,Act.put,Ss]
       refine wpAnyH_ready (rs:=[11]) Kr Sm ?_
       refine AllReadyH.cons (o:=_) rfl (fun KR aM=>?clb1011) ?nlb1011
       case nlb1011=>exact AllReadyH.nil
       go_simp
       refine aM.out _ _ ?_ (fun aI=>?_)
       ·exact zmv
       clear aM KR
       try simp only [Sg,Act.put,Ss]
       refine wpAnyH_take (i:=12) (v:=?vlb1012) rfl Kr Kr Kr Fh (Or.inl ⟨by rfl,?ylb1012⟩) As ?rlb1012
       case ylb1012=>(intro w' ar;(try dsimp only at ar);go_simp;with_reducible rfl)
       try simp only [Sg,Act.put,Ss]
       refine wpAnyH_done Kr ?_ _
       refine NoPanic.normal ?_
       obtain ⟨W7,aT⟩:=Ex (((w6.setCell ⟨W5.heap.size,0,none⟩ (.string ⟨tn.toArray⟩)).setCell ⟨W5.heap.size,1,none⟩ (.int .i64 tr)).setCell ⟨W5.heap.size,2,none⟩ (.bool tb))
       have eG:W7.heap[W5.heap.size]?=some (.cells #[.string ⟨tn.toArray⟩,.int .i64 tr,.bool tb] 69 (0,0)):=by rw [<- aT];exact zbR H6.o.2 _ _ _
       have aR:Below W5.heap.size W5 W7:=by rw [<- aT];exact zbV H6.o.1 Lr _ _ _
       rw [aT]
       obtain ⟨Hc,dm⟩:=Ex W5.heap.size
       rw [dm] at eG ⊢
       have H7:=Hy (An eG aR)
       clear eG aR aT dm H6 ei ka b0_ g0_ b1_ g1_ b2_ g2_
       exact zmu
    obtain rfl:j=m:=by omega
    have HE:=Hy (An hb (show r.all f=true by rw [<- dp.o,List.take_length] at af;exact af))
    clear hb af
    go_wp2
    exact ⟨⟨k+1,by have:=G9.o.2;omega,by go_num,HE.o.1,fun _=>HE.o.2⟩,by have:=G9.o.2;simp [intOf];omega⟩
  obtain rfl:k=1:=by omega
  have HE:=Hy (An sm (af rfl))
  clear sm af
  go_wp2
  go_ret
  exact zB HE.o.2 (lZ.o.2.trans (HE.o.1.mono lZ.o.2.size))
def zt5 (n:Nat) (w:World) (en:Ending) (w':World):Prop:=en=.returned (.int .i64 (n:Nat))/\Below w.heap.size w w'
theorem zt6 (T:List Ty) (C:List Cl) (A:List Atr):zaP T C A<=100:=by
 unfold zaP
 repeat' split
 all_goals omega
def zcz (A:List Atr):Prop:=zdB A/\za3 300 300 A
theorem zmA (g sb:Nat) (m1 m2:Value) (A:List Atr) (dn:Bs) (r:List Av) (D:List (List Av)) (av:Value) (w:World) (hg:w.heap[g]?=some (.cells #[.pointer (some ⟨sb,0,none⟩),m1,m2] 62 (0,0))) (bk:ic w sb plT plC) (hA:zak w av A) (hf:zcz A) (hn:nrD dn=some (r :: D)) (he:zD w) :
  Calls prog 39 #[.pointer (some ⟨g,0,none⟩),.agg #[.string ⟨dn.toArray⟩,av]] w (zt5 (zbs (dn,A)) w):=by
 have zg:=zi hg
 have He:=(ze hg).1
 obtain ⟨W0,aN⟩:=Ex (w.alloc (.cells #[.string ⟨dn.toArray⟩,av] 39))
 have aE:=Nb aN
 have bB:=Nw aN
 have dq:=Hy (fun w' (hb:Below w.heap.size w w')=>zC0 sb plT plC A ⟨dn.toArray⟩ av w' (zby bk hb) zoc zwH Dk Dk (zdA (zcb hA hb)) (by have:=hf.1.1;omega) (fun a ha=>by
  obtain ⟨h1,h2,h3⟩:=hf.1.2 a ha
  exact ⟨by omega,by omega,fun s hs=>by have:=h3 s hs;omega⟩) Dk Dk (zax he hb))
 have iq:=Hy (fun w' (hb:Below w.heap.size w w')=>zt4 g sb A dn r D av w' (((hb.cell (p:=⟨g,0,none⟩) zg)).trans He) (Nat.lt_of_lt_of_le zg hb.size) (zby bk hb) (zcb hA hb) hf.1 hn (zax he hb))
 have qb:zbs (dn,A)=if zaP plT plC A≠0 then zaP plT plC A else if zfv A r=false then 64 else 0:=by
  unfold zbs zcT
  simp only [hn]
 have gY:=zt6 plT plC A
 obtain ⟨a,c,rfl⟩:=zdH hA
 obtain ⟨n,fs⟩:=Ex A.length
 rw [fs] at aN bB iq dq ⊢
 rw [qb]
 obtain ⟨q,hq⟩:=Ex (zaP plT plC A)
 obtain ⟨b,hb⟩:=Ex (zfv A r)
 rw [hq] at dq gY ⊢
 rw [hb] at iq ⊢
 obtain ⟨N,hN⟩:=Ex (if q≠0 then q else if b=false then 64 else 0)
 have L3:=Hy hN
 rw [hN]
 clear hN
 obtain ⟨d0,d1⟩:=zf bB
 have zx:=zi bB
 have ps:=(aE.cell (p:=⟨g,0,none⟩) zg).trans He
 have Hf:=Nat.lt_of_lt_of_le zg aE.size
 have HX:=Hy (An aE bB)
 have gD:=Hy aN
 clear bk hA hf hn he fs aE bB aN hq hb qb hg He
 go_enter func39,ntmps39
 go_wp2_with fail
 rw [gD.o]
 refine wp_region_noPanic ?_
 refine wp_region_held_drew (S:=fun w'=>w'.cell? ⟨g,0,none⟩=some (.pointer (some ⟨sb,0,none⟩))/\w'.cell? ⟨w.heap.size,0,none⟩=some (.string ⟨dn.toArray⟩)/\w'.cell? ⟨w.heap.size,1,none⟩=some (.slice a n c)) Kr ?_ (fun aI=>?_)
 ·exact ⟨ps,d0,d1⟩
 refine wpAnyH_take (i:=0) (v:=?vc0) rfl Kr Kr Kr Fh (Or.inl ⟨by rfl,?yc0⟩) As ?rc0
 case yc0=>(intro w' ar;(try dsimp only at ar);go_simp;with_reducible rfl)
 try simp only [Sg,Act.put,Ss]
 refine wpAnyH_take (i:=1) (v:=?vc1) rfl Kr Kr Kr Fh (Or.inl ⟨by rfl,?yc1⟩) As ?rc1
 case yc1=>(intro w' ar;(try dsimp only at ar);go_simp;with_reducible rfl)
 try simp only [Sg,Act.put,Ss]
 refine wpAnyH_take (i:=2) (v:=?vc2) rfl Kr Kr Kr Fh (Or.inl ⟨by rfl,?yc2⟩) As ?rc2
 case yc2=>(intro w' ar;(try dsimp only at ar);go_simp;with_reducible rfl)
 try simp only [Sg,Act.put,Ss]
 refine wpAnyH_take (i:=3) (v:=?vc3) rfl Kr Kr Kr Fh (Or.inl ⟨by rfl,?yc3⟩) As ?rc3
 case yc3=>(intro w' ar;(try dsimp only at ar);go_simp;with_reducible rfl)
 try simp only [Sg,Act.put,Ss]
 refine wpAnyH_take (i:=4) (v:=?vc4) rfl Kr Kr Kr Fh (Or.inl ⟨by rfl,?yc4⟩) As ?rc4
 case yc4=>(intro w' ar;(try dsimp only at ar);go_simp;with_reducible rfl)
 try simp only [Sg,Act.put,Ss]
 refine wpAnyH_ready (rs:=[5]) Kr Sm ?_
 refine AllReadyH.cons (o:=_) rfl (fun KR aM=>?cc5) ?nc5
 case nc5=>exact AllReadyH.nil
 go_simp
 go_at_call 56
 with_reducible refine (dq.o _ (by first | exact HX.o.1.drew | exact HX.o.1)).mono ?_
 rintro en w6 ⟨rfl,az⟩
 have az:Below W0.heap.size W0 w6:=(by first | exact (Br W0).drew.trans az | exact az)
 have is:=(az.cell (p:=⟨g,0,none⟩) Hf).trans ps
 have i0:=(az.cell (p:=⟨w.heap.size,0,none⟩) zx).trans d0
 have i1:=(az.cell (p:=⟨w.heap.size,1,none⟩) zx).trans d1
 have H6:=Hy (An az (HX.o.1.trans (az.mono HX.o.1.size)))
 clear az
 go_wp2_with fail
 refine aM.out _ _ ?_ (fun aI=>?_)
 ·exact ⟨is,i0,i1⟩
 clear aM KR
 try simp only [Sg,Act.put,Ss]
 refine wpAnyH_take (i:=6) (v:=?vc6) rfl Kr Kr Kr Fh (Or.inl ⟨by rfl,?yc6⟩) As ?rc6
 case yc6=>(intro w' ar;(try dsimp only at ar);go_simp;with_reducible rfl)
 try simp only [Sg,Act.put,Ss]
 refine wpAnyH_done Kr ?_ _
 refine NoPanic.normal ?_
 by_cases wK:q=0
 ·subst wK
  go_wp2_with fail
  refine (iq.o w6 H6.o.2).mono ?_
  rintro en w8 ⟨rfl,bz⟩
  have H8:=Hy bz
  clear bz i0 i1
  cases b with
  | true =>
   exact zmw
  | false =>
   exact zmw
 have hqi:((q:Int) != 0)=true:=by simp;omega
 have HQ:=Hy (show N=q by rw [<- L3.o];exact if_pos wK)
 clear wK i0 i1
 go_wp2
 go_ret
 exact ⟨by rw [HQ.o];rfl,H6.o.2⟩
end Go.Proofs.YtijglbolppkefaaGreatDoor
